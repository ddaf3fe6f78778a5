package plain

import (
	"gearbox/api"
	"gearbox/show"
)

// Words: an object's own words, which are asked of a store in which it is alone.
func Words(o api.Obj) int { return show.Words(api.Store{o}, []api.Val{{Kind: o.Kind, N: 1}}) }

func makes(o api.Obj) Deed { return Deed{New: o, Words: Words(o)} }

// Text: a new one.
func Text(t string) Deed {
	if len(t) > api.MaxText {
		return Throws(ThrowGreat)
	}
	return makes(api.Obj{Kind: api.Text, S: t})
}

// List: a new one with these items.
func List(l []api.Val) Deed {
	switch {
	case anyCell(l...):
		return Throws(ThrowKind)
	case len(l) > api.MaxItems:
		return Throws(ThrowItems)
	}
	return makes(api.Obj{Kind: api.List, L: l, Room: len(l)})
}

// Map: a new one of keys and values, one behind the other.
func Map(s api.Store, l []api.Val) Deed {
	switch {
	case len(l)%2 != 0 || anyCell(l...):
		return Throws(ThrowKind)
	case len(l) > 2*api.MaxItems:
		return Throws(ThrowItems)
	}
	return makes(api.Obj{Kind: api.Map, L: eachKeyOnce(s, l), Room: len(l)})
}

// Cell: a new one of a value.
func Cell(v api.Val) Deed {
	if v.Kind == api.Cell {
		return Throws(ThrowKind)
	}
	return makes(api.Obj{Kind: api.Cell, L: []api.Val{v}})
}

// Fn: a new Func over cells.
func Fn(fn int, cells []api.Val) Deed {
	for _, v := range cells {
		if v.Kind != api.Cell {
			return Throws(ThrowKind)
		}
	}
	return makes(api.Obj{Kind: api.Func, Fn: fn, L: cells})
}
