package plain

import (
	"gearbox/api"
	"gearbox/show"
)

// Not: of a Bool.
func Not(a api.Val) Deed {
	if a.Kind != api.Bool {
		return Throws(ThrowKind)
	}
	return truth(a.N == 0)
}

// Neg: of an Int.
func Neg(a api.Val) Deed {
	if a.Kind != api.Int {
		return Throws(ThrowKind)
	}
	return whole(-a.N)
}

// Len: of a Text, a List, a Map.
func Len(s api.Store, a api.Val) Deed {
	switch a.Kind {
	case api.Text:
		return whole(int64(len(object(s, a).S)))
	case api.List:
		return whole(int64(len(object(s, a).L)))
	case api.Map:
		return whole(int64(len(object(s, a).L) / 2))
	}
	return Throws(ThrowKind)
}

// Show: of any value but a cell.
func Show(s api.Store, a api.Val) Deed {
	t, thrown := Told(s, a)
	if thrown != "" {
		return Throws(thrown)
	}
	return Text(t)
}

// Told: a value's text, or what is thrown for it.
func Told(s api.Store, a api.Val) (text, thrown string) {
	if a.Kind == api.Cell {
		return "", ThrowKind
	}
	t, ok := show.Text(s, a)
	if !ok {
		return "", ThrowGreat
	}
	return t, ""
}
