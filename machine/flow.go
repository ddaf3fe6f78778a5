package machine

import (
	"gearbox/api"
	"gearbox/plain"
)

func (m *Machine) jump(f *frame, a int) { f.place = a }

func (m *Machine) unless(f *frame, a int) {
	v := f.last(1)[0]
	if v.Kind != api.Bool {
		m.throwText(plain.ThrowKind)
		return
	}
	f.next(1)
	if v.N == 0 {
		f.place = a
	}
}

func (m *Machine) loop(f *frame, a int) {
	if m.point() {
		f.place = a
	}
}

func (m *Machine) call(f *frame, a int) {
	if !m.point() {
		return
	}
	l := f.last(a + 1)
	code, thrown := m.called(l[0], a)
	if thrown != "" {
		m.throwText(thrown)
		return
	}
	f.take(a + 1)
	m.frames = append(m.frames, frameOf(code, l[0], l[1:]))
}

// called: the function that a value with so many arguments calls, or what is thrown for it.
func (m *Machine) called(v api.Val, args int) (code *api.Fn, thrown string) {
	if v.Kind != api.Func {
		return nil, plain.ThrowKind
	}
	code = &m.program[m.ground.Which(v)]
	switch {
	case code.Params != args:
		return nil, plain.ThrowArgs
	case len(m.frames) == api.MaxFrames:
		return nil, plain.ThrowDeep
	}
	return code, ""
}

func (m *Machine) back(f *frame, _ int) {
	m.leave()
	if len(m.frames) == 0 {
		m.end = api.EndDone
		return
	}
	ahead := m.top()
	ahead.push(f.last(1)[0])
	ahead.place++
}

func (m *Machine) raise(f *frame, _ int) {
	v := f.last(1)[0]
	if v.Kind == api.Cell {
		m.throwText(plain.ThrowKind)
		return
	}
	m.throw(v)
}
