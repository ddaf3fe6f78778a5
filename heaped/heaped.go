// Package heaped is a heap as the ground of a machine. It is no layer.
package heaped

import (
	"slices"

	"gearbox/api"
	"gearbox/gc"
	"gearbox/heap"
	"gearbox/machine"
	"gearbox/object"
	"gearbox/plain"
)

// Ground is a heap in which the objects of a run are. Values are as the heap tells them: N is a place.
type Ground struct {
	heap  *heap.Heap
	signs plain.Signs
}

// New: a heap of so many words, as many as a heap may have.
func New(words int) *Ground {
	h, _ := heap.New(words)
	return &Ground{heap: h, signs: plain.NewSigns()}
}

// came: what a call of object comes to, and what is thrown where a value that it is handed may not be, and where there are too many.
func came(v api.Val, e api.Errno, mayNot, tooMany string) machine.Did {
	switch e {
	case api.OK:
		return machine.Did{Val: v}
	case api.ErrFull:
		return machine.Did{Full: true}
	case api.ErrArg:
		return machine.Did{Thrown: mayNot}
	case api.ErrLimit:
		return machine.Did{Thrown: tooMany}
	}
	return machine.Did{Thrown: plain.ThrowKind}
}

// Text: a new one.
func (g *Ground) Text(t string) machine.Did {
	v, e := object.NewText(g.heap, t)
	return came(v, e, plain.ThrowKind, plain.ThrowGreat)
}

// List: a new one.
func (g *Ground) List(l []api.Val) machine.Did {
	v, e := object.NewList(g.heap, l)
	return came(v, e, plain.ThrowKind, plain.ThrowItems)
}

// Map: a new one.
func (g *Ground) Map(l []api.Val) machine.Did {
	v, e := object.NewMap(g.heap, l)
	return came(v, e, plain.ThrowKind, plain.ThrowItems)
}

// Cell: a new one.
func (g *Ground) Cell(v api.Val) machine.Did {
	c, e := object.NewCell(g.heap, v)
	return came(c, e, plain.ThrowKind, plain.ThrowKind)
}

// Fn: a new Func.
func (g *Ground) Fn(fn int, cells []api.Val) machine.Did {
	v, e := object.NewFn(g.heap, fn, cells)
	return came(v, e, plain.ThrowKind, plain.ThrowKind)
}

// Len: of a Text, a List, a Map.
func (g *Ground) Len(a api.Val) machine.Did {
	n, e := object.Len(g.heap, a)
	return came(api.Val{Kind: api.Int, N: int64(n)}, e, plain.ThrowKind, plain.ThrowKind)
}

// Get: of a Text, a List, a Map. A Map is not asked for a cell, which is no key: it would say nil.
func (g *Ground) Get(v, k api.Val) machine.Did {
	if k.Kind == api.Cell {
		return machine.Did{Thrown: plain.ThrowKind}
	}
	x, e := object.Get(g.heap, v, k)
	return came(x, e, plain.ThrowBounds, plain.ThrowKind)
}

// Put: of a List, a Map. Cells are told apart from places that a List has not, since object has one error for both.
func (g *Ground) Put(v, k, x api.Val) machine.Did {
	if k.Kind == api.Cell || x.Kind == api.Cell {
		return machine.Did{Thrown: plain.ThrowKind}
	}
	e := object.Put(g.heap, v, k, x)
	return came(api.Val{}, e, plain.ThrowBounds, plain.ThrowItems)
}

// Load: the value of a cell.
func (g *Ground) Load(cell api.Val) machine.Did {
	v, e := object.Cell(g.heap, cell)
	return came(v, e, plain.ThrowKind, plain.ThrowKind)
}

// Store: a cell holds a value.
func (g *Ground) Store(cell, x api.Val) machine.Did {
	e := object.SetCell(g.heap, cell, x)
	return came(api.Val{}, e, plain.ThrowKind, plain.ThrowKind)
}

// Collect: what the roots do not lead to goes, the rest have other places. What the others alone lead to goes, too, and they are nil then: a heap has no room for more than roots.
func (g *Ground) Collect(roots, others []api.Val) (movedRoots, movedOthers []api.Val) {
	moved, _ := gc.Collect(g.heap, slices.Concat(roots, g.led(roots, others)))
	return moved[:len(roots)], moved[len(roots):]
}

// led: the others, and nil for those to which the roots do not lead.
func (g *Ground) led(roots, others []api.Val) []api.Val {
	if !slices.ContainsFunc(others, isObject) {
		return others
	}
	places, _, _ := gc.Reach(g.heap, roots)
	l := slices.Clone(others)
	for i, v := range l {
		if _, is := slices.BinarySearch(places, v.N); isObject(v) && !is {
			l[i] = api.Val{}
		}
	}
	return l
}

func isObject(v api.Val) bool { return v.Kind >= api.Text }

// Crammed: there is no other way to more room.
func (g *Ground) Crammed() bool { return true }

// Again: behind a collection there is nothing beside what the roots lead to.
func (g *Ground) Again(func() []api.Val) {}

// Reached: how many words the roots lead to.
func (g *Ground) Reached(roots []api.Val) int {
	_, words, _ := gc.Reach(g.heap, roots)
	return words
}
