package model

import (
	"gearbox/api"
	"gearbox/plain"
)

func (m *machine) bin(f *frame, a int) {
	l := f.last(2)
	m.comes(f, 2, m.signs.Bin(m.space.Objects(), api.Bin(a), l[0], l[1]))
}

func (m *machine) not(f *frame, _ int) { m.comes(f, 1, plain.Not(f.last(1)[0])) }

func (m *machine) neg(f *frame, _ int) { m.comes(f, 1, plain.Neg(f.last(1)[0])) }

func (m *machine) length(f *frame, _ int) {
	m.comes(f, 1, plain.Len(m.space.Objects(), f.last(1)[0]))
}

func (m *machine) show(f *frame, _ int) {
	m.comes(f, 1, plain.Show(m.space.Objects(), f.last(1)[0]))
}

func (m *machine) list(f *frame, a int) { m.comes(f, a, plain.List(f.last(a))) }

func (m *machine) dict(f *frame, a int) {
	m.comes(f, 2*a, plain.Map(m.space.Objects(), f.last(2*a)))
}

func (m *machine) get(f *frame, _ int) {
	l := f.last(2)
	m.comes(f, 2, plain.Get(m.space.Objects(), l[0], l[1]))
}

func (m *machine) put(f *frame, _ int) {
	l := f.last(3)
	m.changes(f, 3, plain.Put(m.space.Objects(), l[0], l[1], l[2]))
}

func (m *machine) function(f *frame, a int) {
	var cells []api.Val
	for _, c := range m.program[a].Caps {
		if c.Up {
			cells = append(cells, m.cellOf(f, c.N))
		} else {
			cells = append(cells, f.slots[c.N])
		}
	}
	m.comes(f, 0, plain.Fn(a, cells))
}

func (m *machine) print(f *frame, _ int) {
	t, thrown := plain.Told(m.space.Objects(), f.last(1)[0])
	if thrown != "" {
		m.throwText(thrown)
		return
	}
	m.out = append(m.out, t)
	f.next(1)
}
