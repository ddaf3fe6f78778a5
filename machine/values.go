package machine

import (
	"gearbox/api"
	"gearbox/plain"
)

func truth(holds bool) api.Val {
	if holds {
		return api.Val{Kind: api.Bool, N: 1}
	}
	return api.Val{Kind: api.Bool}
}

// Alone: what an operation comes to that needs no ground.
func Alone(d plain.Deed) Did { return Did{Val: d.Val, Thrown: d.Thrown} }

func (m *Machine) bin(f *Stack, a int) {
	m.comes(f, 2, func(l []api.Val) Did { return m.ground.Bin(api.Bin(a), l[0], l[1]) })
}

func (m *Machine) not(f *Stack, _ int) {
	m.comes(f, 1, func(l []api.Val) Did { return Alone(plain.Not(l[0])) })
}

func (m *Machine) neg(f *Stack, _ int) {
	m.comes(f, 1, func(l []api.Val) Did { return Alone(plain.Neg(l[0])) })
}

func (m *Machine) length(f *Stack, _ int) {
	m.comes(f, 1, func(l []api.Val) Did { return m.ground.Len(l[0]) })
}

func (m *Machine) show(f *Stack, _ int) {
	m.comes(f, 1, func(l []api.Val) Did { return m.ground.Show(l[0]) })
}

func (m *Machine) list(f *Stack, a int) { m.comes(f, a, m.ground.List) }

func (m *Machine) dict(f *Stack, a int) { m.comes(f, 2*a, m.ground.Map) }

func (m *Machine) get(f *Stack, _ int) {
	m.comes(f, 2, func(l []api.Val) Did { return m.ground.Get(l[0], l[1]) })
}

func (m *Machine) put(f *Stack, _ int) {
	m.changes(f, 3, func(l []api.Val) Did { return m.ground.Put(l[0], l[1], l[2]) })
}

func (m *Machine) function(f *Stack, a int) {
	m.comes(f, 0, func([]api.Val) Did { return m.ground.Fn(a, m.cells(f, a)) })
}

// cells: those that a function is closed over, if the frame makes it.
func (m *Machine) cells(f *Stack, fn int) []api.Val {
	var l []api.Val
	for _, c := range m.program[fn].Caps {
		if c.Up {
			l = append(l, m.ground.CellOf(f.by, c.N))
		} else {
			l = append(l, f.slots[c.N])
		}
	}
	return l
}

func (m *Machine) print(f *Stack, _ int) {
	t, thrown := m.ground.Told(f.last(1)[0])
	if thrown != "" {
		m.throwText(thrown)
		return
	}
	m.Print(t)
	f.next(1)
}

// Print: a text is told.
func (m *Machine) Print(t string) { m.out = append(m.out, t) }
