package machine

import (
	"gearbox/api"
	"gearbox/plain"
)

func (m *Machine) jump(f *Stack, a int) { f.place = a }

func (m *Machine) unless(f *Stack, a int) {
	v := f.last(1)[0]
	if v.Kind != api.Bool {
		m.throwText(plain.ThrowKind)
		return
	}
	f.next(1)
	if v.N == 0 {
		f.place = a
	}
}

func (m *Machine) loop(f *Stack, a int) {
	if m.Point() {
		f.place = a
	}
}

func (m *Machine) call(f *Stack, a int) {
	if !m.Point() {
		return
	}
	l := f.last(a + 1)
	fn, thrown := m.Called(l[0], a)
	if thrown != "" {
		m.throwText(thrown)
		return
	}
	f.take(a + 1)
	m.Begin(fn, l[0], l[1:])
}

// Called: the function that a value with so many arguments calls, or what is thrown for it.
func (m *Machine) Called(v api.Val, args int) (fn int, thrown string) {
	if v.Kind != api.Func {
		return 0, plain.ThrowKind
	}
	fn = m.ground.Which(v)
	switch {
	case m.program[fn].Params != args:
		return 0, plain.ThrowArgs
	case len(m.frames) == api.MaxFrames:
		return 0, plain.ThrowDeep
	}
	return fn, ""
}

// Begin: a function is called by a Func, and handed its first locals: its frame is the last one then.
func (m *Machine) Begin(fn int, by api.Val, args []api.Val) {
	m.frames = append(m.frames, m.begins(fn, by, args))
}

func (m *Machine) back(f *Stack, _ int) { m.Back(f.last(1)[0]) }

// Back: the last frame goes; what it comes to is for the one ahead.
func (m *Machine) Back(v api.Val) {
	m.leave()
	if len(m.frames) == 0 {
		m.end = api.EndDone
		return
	}
	m.top().Gets(v)
}

func (m *Machine) raise(f *Stack, _ int) {
	v := f.last(1)[0]
	if v.Kind == api.Cell {
		m.throwText(plain.ThrowKind)
		return
	}
	m.throw(v)
}
