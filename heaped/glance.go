package heaped

import (
	"gearbox/api"
	"gearbox/heap"
	"gearbox/machine"
	"gearbox/object"
	"gearbox/plain"
)

// deepest is how many others a List or a Map may be within, to be shown.
const deepest = 8

// enough is how much is looked at, at most: each value that is in another one counts as one, a Text's bytes, too. A value shows at least a byte, or a Text that is empty; and each of these has two bytes ahead of it, or is the first one of a List or a Map, which shows one. So of more than this there is no text.
const enough = 2*api.MaxText + 1

// glance is a value of a heap in a plain store, as far as its text tells of it. (It may lead to all of the heap, of which the text tells little.) An object is there as often as it is come to.
type glance struct {
	heap  *heap.Heap
	store api.Store
	left  int // how much may still be looked at
}

// Told: a value's text, or what is thrown for it.
func (g *Ground) Told(v api.Val) (text, thrown string) {
	l := glance{heap: g.heap, left: enough}
	shown := l.value(v, 0)
	return plain.Told(l.store, shown)
}

// Show: a new Text.
func (g *Ground) Show(a api.Val) machine.Did {
	t, thrown := g.Told(a)
	if thrown != "" {
		return machine.Did{Thrown: thrown}
	}
	return g.Text(t)
}

// value: one that is within so many others, as one of the store.
func (l *glance) value(v api.Val, within int) api.Val {
	switch v.Kind {
	case api.Text:
		s, _ := object.Text(l.heap, v)
		l.left -= len(s)
		return l.add(api.Obj{Kind: api.Text, S: s})
	case api.Func:
		return l.add(api.Obj{Kind: api.Func, Fn: number(l.heap, v)})
	case api.List, api.Map:
		return l.add(api.Obj{Kind: v.Kind, L: l.row(v, within)})
	}
	return v
}

// row: the values of a List, of a Map that is within so many others.
func (l *glance) row(v api.Val, within int) []api.Val {
	if within > deepest {
		return nil
	}
	var row []api.Val
	for i := range number(l.heap, v) {
		if l.left <= 0 {
			break
		}
		l.left--
		row = append(row, l.value(item(l.heap, v, i), within+1))
	}
	return row
}

// add: an object is in the store.
func (l *glance) add(o api.Obj) api.Val {
	l.store = append(l.store, o)
	return api.Val{Kind: o.Kind, N: int64(len(l.store))}
}
