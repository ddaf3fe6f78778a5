package object

import (
	"math"
	"slices"

	"gearbox/api"
	"gearbox/heap"
)

// memory is a heap with what this layer knows of it; what stands in it the heap's own calls tell.
type memory struct{ *heap.Heap }

// there: was the heap made by New? Such a heap has a word at least.
func (m memory) there() bool { return m.Words() > 0 }

// fits: are there so many words behind the end?
func (m memory) fits(words int) bool { return words <= m.Words()-m.Used() }

// word: an object's word i; 0, if it has none.
func (m memory) word(at int64, i int) uint64 {
	w, _ := m.Read(at, i)
	return w
}

// tellsObject: is N the place of an object, in values of that kind?
func tellsObject(k api.Kind) bool { return k >= api.Text && k <= api.Cell }

// leads: does a value lead to an object?
func (m memory) leads(v api.Val) bool {
	if !tellsObject(v.Kind) {
		return false
	}
	k, e := m.Kind(v.N)
	return e == api.OK && k == v.Kind
}

// isCell: is it a Cell that leads to a Cell?
func (m memory) isCell(v api.Val) bool { return v.Kind == api.Cell && m.leads(v) }

// mayBeHeld: by lists, maps and cells.
func (m memory) mayBeHeld(v api.Val) bool {
	switch v.Kind {
	case api.Nil:
		return v.N == 0
	case api.Bool:
		return v.N == 0 || v.N == 1
	case api.Int:
		return true
	case api.Cell:
		return false
	}
	return m.leads(v)
}

func (m memory) allMayBeHeld(l []api.Val) bool {
	return !slices.ContainsFunc(l, func(v api.Val) bool { return !m.mayBeHeld(v) })
}

func (m memory) allCells(l []api.Val) bool {
	return !slices.ContainsFunc(l, func(v api.Val) bool { return !m.isCell(v) })
}

// value: the value i of an object.
func (m memory) value(b body, i int) api.Val {
	k := m.word(b.in, b.first+2*i)
	if k > math.MaxUint8 { // ahead of the conversion, which keeps the lowest bits alone
		return api.Val{}
	}
	return api.Val{Kind: api.Kind(k), N: int64(m.word(b.in, b.first+2*i+1))}
}

// hold: the value i of an object is v.
func (m memory) hold(b body, i int, v api.Val) {
	m.Write(b.in, b.first+2*i, uint64(v.Kind))
	m.Write(b.in, b.first+2*i+1, uint64(v.N))
}

// each hands the values of an object to do, in order, till that answers false; was it never?
func (m memory) each(b body, do func(i int, v api.Val) bool) bool {
	for i := range b.count {
		if !do(i, m.value(b, i)) {
			return false
		}
	}
	return true
}

// values: of an object, in order.
func (m memory) values(b body) []api.Val {
	l := slices.Grow([]api.Val(nil), b.count)
	m.each(b, func(_ int, v api.Val) bool {
		l = append(l, v)
		return true
	})
	return l
}

// newHolder: a new object that holds values in its own words, from the word first on.
func (m memory) newHolder(k api.Kind, first int, l ...api.Val) (api.Val, api.Errno) {
	at, e := m.Alloc(k, first+2*len(l))
	if e != api.OK {
		return api.Val{}, e
	}
	b := body{in: at, first: first}
	for i, v := range l {
		m.hold(b, i, v)
	}
	return api.Val{Kind: k, N: at}, api.OK
}
