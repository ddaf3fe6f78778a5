package registers

import (
	"gearbox/api"
	"gearbox/machine"
)

func (f *Frame) jump(_ *machine.Machine, i *api.RegIns) { f.place = int(i.N) }

func (f *Frame) unless(m *machine.Machine, i *api.RegIns) {
	holds, ok := m.TestOrFall(f.arg(i, 0))
	switch {
	case !ok:
	case holds:
		f.place++
	default:
		f.place = int(i.N)
	}
}

func (f *Frame) loop(m *machine.Machine, i *api.RegIns) {
	if m.Point() {
		f.place = int(i.N)
	}
}

func (f *Frame) call(m *machine.Machine, i *api.RegIns) {
	if fn, ok := m.CallOrFall(f.arg(i, 0), len(i.Args)-1); ok {
		f.waits = true
		l := f.args(i)
		m.Begin(fn, l[0], l[1:])
	}
}

func (f *Frame) back(m *machine.Machine, i *api.RegIns) { m.Back(f.arg(i, 0)) }

func (f *Frame) raise(m *machine.Machine, _ *api.RegIns) { m.Fall() }

func (f *Frame) print(m *machine.Machine, i *api.RegIns) {
	if m.PrintOrFall(f.arg(i, 0)) {
		f.place++
	}
}
