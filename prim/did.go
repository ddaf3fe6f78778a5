package prim

import (
	"slices"
	"strings"

	"gearbox/api"
	"gearbox/show"
)

// What operations throw.
const (
	wrongKind = "kind"
	byZero    = "zero"
	tooGreat  = "great"
	tooMany   = "items"
	outside   = "bounds"
)

func throws(s api.Store, text string) Did { return Did{Store: copyOf(s), Thrown: text} }

func comesTo(s api.Store, v api.Val) Did { return Did{Store: copyOf(s), Val: v} }

// makes: a new object behind those that there are; its words are asked of a store in which it is alone, so that they are nobody else's.
func makes(s api.Store, o api.Obj) Did {
	c := append(copyOf(s), renewed(o))
	return Did{
		Store: c,
		Val:   api.Val{Kind: o.Kind, N: int64(len(c))},
		Words: show.Words(api.Store{o}, []api.Val{{Kind: o.Kind, N: 1}}),
	}
}

// copyOf: the same objects in new memory, since an answer shares none with what was handed in.
func copyOf(s api.Store) api.Store {
	c := slices.Clone(s)
	for i, o := range c {
		c[i] = renewed(o)
	}
	return c
}

func renewed(o api.Obj) api.Obj {
	o.S, o.L = strings.Clone(o.S), slices.Clone(o.L)
	return o
}

func whole(n int64) api.Val { return api.Val{Kind: api.Int, N: n} }

func truth(holds bool) api.Val {
	if holds {
		return api.Val{Kind: api.Bool, N: 1}
	}
	return api.Val{Kind: api.Bool}
}
