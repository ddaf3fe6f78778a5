package machine

import "gearbox/api"

// comes: an instruction that takes so many values, and pushes what its operation on them comes to.
func (m *Machine) comes(f *Stack, takes int, operation func(l []api.Val) Did) {
	if v, ok := m.did(func() Did { return operation(f.last(takes)) }); ok {
		f.next(takes)
		f.push(v)
	}
}

// changes: likewise, and nothing is pushed.
func (m *Machine) changes(f *Stack, takes int, operation func(l []api.Val) Did) {
	if _, ok := m.did(func() Did { return operation(f.last(takes)) }); ok {
		f.next(takes)
	}
}

// pushes: an instruction that pushes a value, and does nothing else.
func pushes(f *Stack, v api.Val) {
	f.next(0)
	f.push(v)
}

func (m *Machine) constant(f *Stack, a int) {
	c := f.code.Consts[a]
	if c.Kind == api.Int {
		pushes(f, api.Val{Kind: api.Int, N: c.N})
		return
	}
	m.comes(f, 0, func([]api.Val) Did { return m.ground.Text(c.S) })
}

func (m *Machine) none(f *Stack, _ int) { pushes(f, api.Val{}) }

func (m *Machine) yes(f *Stack, _ int) { pushes(f, truth(true)) }

func (m *Machine) no(f *Stack, _ int) { pushes(f, truth(false)) }

func (m *Machine) load(f *Stack, a int) { pushes(f, f.slots[a]) }

func (m *Machine) store(f *Stack, a int) {
	f.slots[a] = f.last(1)[0]
	f.next(1)
}

func (m *Machine) cell(f *Stack, a int) {
	if v, ok := m.did(func() Did { return m.ground.Cell(f.slots[a]) }); ok {
		f.slots[a] = v
		f.next(0)
	}
}

func (m *Machine) cellLoad(f *Stack, a int) {
	m.comes(f, 0, func([]api.Val) Did { return m.ground.Load(f.slots[a]) })
}

func (m *Machine) cellStore(f *Stack, a int) {
	m.changes(f, 1, func(l []api.Val) Did { return m.ground.Store(f.slots[a], l[0]) })
}

func (m *Machine) up(f *Stack, a int) {
	m.comes(f, 0, func([]api.Val) Did { return m.ground.Load(m.ground.CellOf(f.by, a)) })
}

func (m *Machine) upStore(f *Stack, a int) {
	m.changes(f, 1, func(l []api.Val) Did { return m.ground.Store(m.ground.CellOf(f.by, a), l[0]) })
}

func (m *Machine) pop(f *Stack, _ int) { f.next(1) }

func (m *Machine) dup(f *Stack, _ int) { pushes(f, f.last(1)[0]) }
