// Package space is plain values as the ground of a machine: a store whose room is counted. It is no layer.
package space

import (
	"gearbox/api"
	"gearbox/machine"
	"gearbox/plain"
)

// Space is the objects of a run, with room for so many words.
type Space struct {
	objects
	signs  plain.Signs
	room   int
	enough int // so many words are wanted for the next collection to be worth its while
	spare  int // how many words more there is room for in the operation that is done next
}

// New: without objects.
func New(room int) *Space { return &Space{signs: plain.NewSigns(), room: room} }

// do: an operation that was worked out in this space.
func (s *Space) do(d plain.Deed) machine.Did {
	room := s.room + s.spare
	s.spare = 0
	switch {
	case d.Thrown != "":
		return machine.Did{Thrown: d.Thrown}
	case d.Words > 0 && s.used+d.Words > room:
		return machine.Did{Full: true}
	case d.New.Kind != api.Nil:
		return machine.Did{Val: s.add(d.New, d.Words)}
	}
	s.change(d.Change, d.Words)
	return machine.Did{Val: d.Val}
}

// Text: a new one.
func (s *Space) Text(t string) machine.Did { return s.do(plain.Text(t)) }

// List: a new one.
func (s *Space) List(l []api.Val) machine.Did { return s.do(plain.List(l)) }

// Map: a new one.
func (s *Space) Map(l []api.Val) machine.Did { return s.do(plain.Map(s.store, l)) }

// Cell: a new one.
func (s *Space) Cell(v api.Val) machine.Did { return s.do(plain.Cell(v)) }

// Fn: a new Func.
func (s *Space) Fn(fn int, cells []api.Val) machine.Did { return s.do(plain.Fn(fn, cells)) }

// Bin: of two values.
func (s *Space) Bin(op api.Bin, a, b api.Val) machine.Did {
	return s.do(s.signs.Bin(s.store, op, a, b))
}

// Len: of a Text, a List, a Map.
func (s *Space) Len(a api.Val) machine.Did { return s.do(plain.Len(s.store, a)) }

// Show: a new Text.
func (s *Space) Show(a api.Val) machine.Did { return s.do(plain.Show(s.store, a)) }

// Get: of a Text, a List, a Map.
func (s *Space) Get(v, k api.Val) machine.Did { return s.do(plain.Get(s.store, v, k)) }

// Put: of a List, a Map.
func (s *Space) Put(v, k, x api.Val) machine.Did { return s.do(plain.Put(s.store, v, k, x)) }

// Load: the value of a cell.
func (s *Space) Load(cell api.Val) machine.Did { return s.do(plain.CellLoad(s.store, cell)) }

// Store: a cell holds a value.
func (s *Space) Store(cell, x api.Val) machine.Did { return s.do(plain.CellStore(s.store, cell, x)) }

// Told: a value's text, or what is thrown for it.
func (s *Space) Told(v api.Val) (text, thrown string) { return plain.Told(s.store, v) }

// Which: the function that a Func is of.
func (s *Space) Which(fn api.Val) int { return s.store[fn.N-1].Fn }

// CellOf: the n-th cell that a Func is over.
func (s *Space) CellOf(fn api.Val, n int) api.Val { return s.store[fn.N-1].L[n] }

// Collect: what neither the roots nor the others lead to goes; the rest keep their numbers.
func (s *Space) Collect(roots, others []api.Val) (movedRoots, movedOthers []api.Val) {
	s.turn++
	s.meet(roots)
	s.meet(others)
	s.keep()
	s.enough = 2*s.used + s.room + len(roots) + len(others)
	return roots, others
}

// Crammed: is there as much more than in the last collection as that had to go through? There may be very much that no root leads to, and it need not go: it takes no room.
func (s *Space) Crammed() bool { return s.used >= s.enough }

// Again: what the roots do not lead to takes no room in the operation that is done next.
func (s *Space) Again(roots func() []api.Val) { s.spare = s.used - s.Reached(roots()) }

// Reached: how many words the roots lead to.
func (s *Space) Reached(roots []api.Val) int {
	s.turn++
	return s.meet(roots)
}
