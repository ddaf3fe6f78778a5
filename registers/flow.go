package registers

import (
	"gearbox/api"
	"gearbox/machine"
)

func (f *Frame) jump(_ *machine.Machine, i *api.RegIns) { f.place = int(i.N) }

func (f *Frame) unless(m *machine.Machine, i *api.RegIns) {
	v := f.arg(i, 0)
	switch {
	case v.Kind != api.Bool:
		m.Fall()
	case v.N == 0:
		f.place = int(i.N)
	default:
		f.place++
	}
}

func (f *Frame) loop(m *machine.Machine, i *api.RegIns) {
	if m.Point() {
		f.place = int(i.N)
	}
}

// call: whether it throws is asked ahead of the point, since a frame falls without fuel being taken. At the point values may be moved: they are read behind it.
func (f *Frame) call(m *machine.Machine, i *api.RegIns) {
	fn, thrown := m.Called(f.arg(i, 0), len(i.Args)-1)
	if thrown != "" {
		m.Fall()
		return
	}
	if m.Point() {
		f.waits = true
		m.Begin(fn, f.arg(i, 0), f.args(i, 1))
	}
}

func (f *Frame) back(m *machine.Machine, i *api.RegIns) { m.Back(f.arg(i, 0)) }

func (f *Frame) raise(m *machine.Machine, _ *api.RegIns) { m.Fall() }

func (f *Frame) print(m *machine.Machine, i *api.RegIns) {
	t, thrown := m.Ground().Told(f.arg(i, 0))
	if thrown != "" {
		m.Fall()
		return
	}
	m.Print(t)
	f.place++
}
