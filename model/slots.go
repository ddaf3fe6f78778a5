package model

import (
	"gearbox/api"
	"gearbox/plain"
)

// comes: an instruction that takes so many values, and pushes what its operation comes to.
func (m *machine) comes(f *frame, takes int, d plain.Deed) {
	if v, ok := m.did(d); ok {
		f.next(takes)
		f.push(v)
	}
}

// changes: likewise, and nothing is pushed.
func (m *machine) changes(f *frame, takes int, d plain.Deed) {
	if _, ok := m.did(d); ok {
		f.next(takes)
	}
}

// pushes: an instruction that pushes a value, and does nothing else.
func pushes(f *frame, v api.Val) {
	f.next(0)
	f.push(v)
}

func (m *machine) constant(f *frame, a int) {
	c := f.code.Consts[a]
	if c.Kind == api.Int {
		pushes(f, api.Val{Kind: api.Int, N: c.N})
		return
	}
	m.comes(f, 0, plain.Text(c.S))
}

func (m *machine) none(f *frame, _ int) { pushes(f, api.Val{}) }

func (m *machine) yes(f *frame, _ int) { pushes(f, api.Val{Kind: api.Bool, N: 1}) }

func (m *machine) no(f *frame, _ int) { pushes(f, api.Val{Kind: api.Bool}) }

func (m *machine) load(f *frame, a int) { pushes(f, f.slots[a]) }

func (m *machine) store(f *frame, a int) {
	f.slots[a] = f.last(1)[0]
	f.next(1)
}

func (m *machine) cell(f *frame, a int) {
	if v, ok := m.did(plain.Cell(f.slots[a])); ok {
		f.slots[a] = v
		f.next(0)
	}
}

func (m *machine) cellLoad(f *frame, a int) {
	m.comes(f, 0, plain.CellLoad(m.space.Objects(), f.slots[a]))
}

func (m *machine) cellStore(f *frame, a int) {
	m.changes(f, 1, plain.CellStore(m.space.Objects(), f.slots[a], f.last(1)[0]))
}

// cellOf: one that the frame's Func is closed over.
func (m *machine) cellOf(f *frame, n int) api.Val { return m.space.Objects()[f.fn.N-1].L[n] }

func (m *machine) up(f *frame, a int) {
	m.comes(f, 0, plain.CellLoad(m.space.Objects(), m.cellOf(f, a)))
}

func (m *machine) upStore(f *frame, a int) {
	m.changes(f, 1, plain.CellStore(m.space.Objects(), m.cellOf(f, a), f.last(1)[0]))
}

func (m *machine) pop(f *frame, _ int) { f.next(1) }

func (m *machine) dup(f *frame, _ int) { pushes(f, f.last(1)[0]) }
