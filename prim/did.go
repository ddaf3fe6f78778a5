package prim

import (
	"slices"
	"strings"

	"gearbox/api"
	"gearbox/plain"
)

// did: an operation is done on a copy of the store, since an answer shares no memory with what was handed in.
func did(s api.Store, d plain.Deed) Did {
	c := copyOf(s)
	v := d.Val
	if d.New.Kind != api.Nil {
		c = append(c, renewed(d.New))
		v = api.Val{Kind: d.New.Kind, N: int64(len(c))}
	}
	d.Change.On(c)
	return Did{Store: c, Val: v, Thrown: d.Thrown, Words: d.Words}
}

// refused: a value may not be where it is handed in.
func refused(s api.Store) Did { return did(s, plain.Throws(plain.ThrowKind)) }

func copyOf(s api.Store) api.Store {
	c := slices.Clone(s)
	for i, o := range c {
		c[i] = renewed(o)
	}
	return c
}

func renewed(o api.Obj) api.Obj {
	o.S, o.L = strings.Clone(o.S), slices.Clone(o.L)
	return o
}
