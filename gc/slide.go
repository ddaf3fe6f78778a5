package gc

import (
	"slices"

	"gearbox/api"
	"gearbox/heap"
)

// moves are the new places of the objects that do not stay where they are.
type moves map[int64]int64

// plan: where objects come to lie, one behind the other, from the beginning on; the place behind the last one.
func plan(h *heap.Heap, places []int64) (moves, int64) {
	m := moves{}
	end := int64(0)
	for _, at := range places {
		if at != end {
			m[at] = end
		}
		end += int64(taken(h, at))
	}
	return m, end
}

// place: where the object at a place comes to lie.
func (m moves) place(at int64) int64 {
	if to, ok := m[at]; ok {
		return to
	}
	return at
}

// writes: what is to be written to the links when all objects have been moved. It is found out ahead of that: among objects that are being moved a word no longer says what it leads to.
func (m moves) writes(h *heap.Heap, places []int64) []func() {
	if len(m) == 0 { // as it mostly is in a heap that is full
		return nil
	}
	var l []func()
	for _, at := range places {
		from := m.place(at)
		for k := range holds(h, at).links {
			if to, ok := m[k.to]; ok {
				l = append(l, func() { h.Write(from, k.word, uint64(to)+k.more) })
			}
		}
	}
	return l
}

// slide moves objects, the first ones first: so none is written over that is still to be moved.
func (m moves) slide(h *heap.Heap, places []int64) {
	for _, at := range places {
		if to := m.place(at); to != at {
			h.Move(at, to)
		}
	}
}

// roots: values, each that leads to an object with its new place.
func (m moves) roots(old []api.Val) []api.Val {
	l := slices.Clone(old)
	for i, v := range l {
		if tellsObject(v.Kind) {
			l[i].N = m.place(v.N)
		}
	}
	return l
}
