package registers

import (
	"gearbox/api"
	"gearbox/machine"
	"gearbox/operations"
)

// deed is what instructions of an Op do: one of these.
type deed struct {
	operation operations.Operation
	flow      func(f *Frame, m *machine.Machine, i *api.RegIns)
}

// deeds are those of all instructions, by their Op.
type deeds [api.RPrint + 1]deed

func newDeeds() deeds {
	return deeds{
		api.RConst:     {operation: operations.Const},
		api.RValue:     {operation: operations.Value},
		api.RMove:      {operation: operations.Move},
		api.RCell:      {operation: operations.Cell},
		api.RCellLoad:  {operation: operations.CellLoad},
		api.RCellStore: {operation: operations.CellStore},
		api.RUp:        {operation: operations.Up},
		api.RUpStore:   {operation: operations.UpStore},
		api.RBin:       {operation: operations.Bin},
		api.RNot:       {operation: operations.Not},
		api.RNeg:       {operation: operations.Neg},
		api.RLen:       {operation: operations.Len},
		api.RShow:      {operation: operations.Show},
		api.RIntBin:    {operation: operations.IntBin},
		api.RGuard:     {operation: operations.Guard},
		api.RJump:      {flow: (*Frame).jump},
		api.RUnless:    {flow: (*Frame).unless},
		api.RLoop:      {flow: (*Frame).loop},
		api.RList:      {operation: operations.List},
		api.RMap:       {operation: operations.Map},
		api.RGet:       {operation: operations.Get},
		api.RPut:       {operation: operations.Put},
		api.RFn:        {operation: operations.Fn},
		api.RCall:      {flow: (*Frame).call},
		api.RReturn:    {flow: (*Frame).back},
		api.RThrow:     {flow: (*Frame).raise},
		api.RPrint:     {flow: (*Frame).print},
	}
}

// operate: what an operation comes to goes to the instruction's To.
func (f *Frame) operate(m *machine.Machine, operation operations.Operation, i *api.RegIns) {
	x := operations.In{Program: f.code.program, Fn: f.code.fn, N: i.N, Kind: i.Kind}
	v, ok := m.DoOrFall(func() machine.Did {
		x.By = f.by
		return operation(m.Ground(), x, f.args(i))
	})
	if ok {
		f.goesOn(i, v)
	}
}
