package graph

import (
	"gearbox/api"
	"gearbox/machine"
)

// ends is what each end of a block does, by its number.
type ends [api.BkThrow + 1]func(f *frame, m *machine.Machine, x *api.Block)

func newEnds() ends {
	return ends{
		api.BkJump:   (*frame).jump,
		api.BkUnless: (*frame).unless,
		api.BkLoop:   (*frame).loop,
		api.BkReturn: (*frame).back,
		api.BkThrow:  (*frame).raise,
	}
}

func (f *frame) jump(*machine.Machine, *api.Block) { f.goes(0) }

func (f *frame) unless(m *machine.Machine, x *api.Block) {
	holds, ok := m.TestOrFall(f.value(x.Args[0]))
	switch {
	case !ok:
	case holds:
		f.goes(0)
	default:
		f.goes(1)
	}
}

func (f *frame) loop(m *machine.Machine, _ *api.Block) {
	if m.Point() {
		f.goes(0)
	}
}

func (f *frame) back(m *machine.Machine, x *api.Block) { m.Back(f.value(x.Args[0])) }

func (f *frame) raise(m *machine.Machine, _ *api.Block) { m.Fall() }
