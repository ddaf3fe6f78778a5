package plain

import (
	"strings"

	"gearbox/api"
)

// For how many values a List or a Map has room, at least, behind what lets it grow.
const (
	listRoom = 4
	mapRoom  = 8
)

// Get: of a List, a Text, a Map at a key.
func Get(s api.Store, v, k api.Val) Deed {
	switch {
	case v.Kind == api.Map && k.Kind != api.Cell:
		return comesTo(valueOf(s, object(s, v).L, k))
	case v.Kind == api.List && k.Kind == api.Int:
		return getItem(object(s, v).L, k.N)
	case v.Kind == api.Text && k.Kind == api.Int:
		return getByte(object(s, v).S, k.N)
	}
	return Throws(ThrowKind)
}

// Put: of a List, a Map at a key.
func Put(s api.Store, v, k, x api.Val) Deed {
	switch {
	case anyCell(k, x):
		return Throws(ThrowKind)
	case v.Kind == api.Map:
		return putPair(s, v, k, x)
	case v.Kind == api.List && k.Kind == api.Int:
		return putItem(s, v, k.N, x)
	}
	return Throws(ThrowKind)
}

// CellLoad: the value of a cell.
func CellLoad(s api.Store, c api.Val) Deed {
	if c.Kind != api.Cell {
		return Throws(ThrowKind)
	}
	return comesTo(object(s, c).L[0])
}

// CellStore: a cell holds a value.
func CellStore(s api.Store, c, x api.Val) Deed {
	if c.Kind != api.Cell || x.Kind == api.Cell {
		return Throws(ThrowKind)
	}
	return sets(s, c, 0, x)
}

// essence is one of all values that are the same.
type essence struct {
	val  api.Val
	says string
}

func essenceOf(s api.Store, v api.Val) essence {
	if v.Kind == api.Text {
		return essence{api.Val{Kind: api.Text}, object(s, v).S}
	}
	return essence{val: v}
}

// eachKeyOnce: keys with their values, of those that are the same the first key and the last value. Keys are looked up, since there may be too many of them to hold each against all others.
func eachKeyOnce(s api.Store, l []api.Val) []api.Val {
	var once []api.Val
	places := map[essence]int{}
	for i := 0; i < len(l); i += 2 {
		k := essenceOf(s, l[i])
		at, ok := places[k]
		if !ok {
			at = len(once)
			places[k] = at
			once = append(once, l[i], api.Val{})
		}
		once[at+1] = l[i+1]
	}
	return once
}

// keyAt: where a key stands among a Map's values; false: there is none.
func keyAt(s api.Store, l []api.Val, k api.Val) (int, bool) {
	for i := 0; i < len(l); i += 2 {
		if same(s, l[i], k) {
			return i, true
		}
	}
	return 0, false
}

// valueOf: the value of a Map's key; nil, if there is none.
func valueOf(s api.Store, l []api.Val, k api.Val) api.Val {
	if i, ok := keyAt(s, l, k); ok {
		return l[i+1]
	}
	return api.Val{}
}

func getItem(l []api.Val, at int64) Deed {
	if at < 0 || at >= int64(len(l)) {
		return Throws(ThrowBounds)
	}
	return comesTo(l[at])
}

// getByte: the new Text has memory of its own, since it may be there far longer than the one that it is taken from.
func getByte(t string, at int64) Deed {
	if at < 0 || at >= int64(len(t)) {
		return Throws(ThrowBounds)
	}
	return Text(strings.Clone(t[at : at+1]))
}

func putItem(s api.Store, v api.Val, at int64, x api.Val) Deed {
	n := int64(len(object(s, v).L))
	switch {
	case at < 0 || at > n:
		return Throws(ThrowBounds)
	case at < n:
		return sets(s, v, int(at), x)
	case n == api.MaxItems:
		return Throws(ThrowItems)
	}
	return adds(s, v, listRoom, x)
}

func putPair(s api.Store, v, k, x api.Val) Deed {
	l := object(s, v).L
	if i, ok := keyAt(s, l, k); ok {
		return sets(s, v, i+1, x)
	}
	if len(l) == 2*api.MaxItems {
		return Throws(ThrowItems)
	}
	return adds(s, v, mapRoom, k, x)
}

// sets: x stands at a place of an object.
func sets(s api.Store, v api.Val, at int, x api.Val) Deed {
	return Deed{Change: Change{Of: v.N, At: at, L: []api.Val{x}, Room: object(s, v).Room}}
}

// adds: a List or a Map has more values, behind the others; where there is no room for them there is twice as much then, or the least.
func adds(s api.Store, v api.Val, least int, more ...api.Val) Deed {
	o := object(s, v)
	d := Deed{Change: Change{Of: v.N, At: len(o.L), L: more, Room: o.Room}}
	if o.Room < len(o.L)+len(more) {
		d.Change.Room = max(least, 2*o.Room)
		d.Words = 1 + 2*d.Change.Room
	}
	return d
}
