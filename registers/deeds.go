package registers

import (
	"gearbox/api"
	"gearbox/machine"
)

// deed is what instructions of an Op do: one of these.
type deed struct {
	operation func(f *Frame, g machine.Ground, i *api.RegIns) machine.Did
	flow      func(f *Frame, m *machine.Machine, i *api.RegIns)
}

// deeds are those of all instructions, by their Op.
type deeds [api.RPrint + 1]deed

func newDeeds() deeds {
	return deeds{
		api.RConst:     {operation: (*Frame).constant},
		api.RValue:     {operation: (*Frame).value},
		api.RMove:      {operation: (*Frame).move},
		api.RCell:      {operation: (*Frame).cell},
		api.RCellLoad:  {operation: (*Frame).cellLoad},
		api.RCellStore: {operation: (*Frame).cellStore},
		api.RUp:        {operation: (*Frame).up},
		api.RUpStore:   {operation: (*Frame).upStore},
		api.RBin:       {operation: (*Frame).bin},
		api.RNot:       {operation: (*Frame).not},
		api.RNeg:       {operation: (*Frame).neg},
		api.RLen:       {operation: (*Frame).length},
		api.RShow:      {operation: (*Frame).show},
		api.RIntBin:    {operation: (*Frame).intBin},
		api.RGuard:     {operation: (*Frame).guard},
		api.RJump:      {flow: (*Frame).jump},
		api.RUnless:    {flow: (*Frame).unless},
		api.RLoop:      {flow: (*Frame).loop},
		api.RList:      {operation: (*Frame).list},
		api.RMap:       {operation: (*Frame).dict},
		api.RGet:       {operation: (*Frame).get},
		api.RPut:       {operation: (*Frame).put},
		api.RFn:        {operation: (*Frame).function},
		api.RCall:      {flow: (*Frame).call},
		api.RReturn:    {flow: (*Frame).back},
		api.RThrow:     {flow: (*Frame).raise},
		api.RPrint:     {flow: (*Frame).print},
	}
}

// operate: what an operation comes to goes to the instruction's To; where it would throw, the frame falls.
func (f *Frame) operate(m *machine.Machine, operation func(*Frame, machine.Ground, *api.RegIns) machine.Did, i *api.RegIns) {
	d, ok := m.Did(func() machine.Did { return operation(f, m.Ground(), i) })
	switch {
	case !ok:
	case d.Thrown != "":
		m.Fall()
	default:
		f.goesOn(i, d.Val)
	}
}
