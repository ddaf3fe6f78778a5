package graph

import (
	"gearbox/api"
	"gearbox/machine"
	"gearbox/operations"
)

// deed is what nodes of an Op do: one of these. (Phis are told when their block is come to.)
type deed struct {
	operation operations.Operation
	flow      func(f *frame, m *machine.Machine, x *api.Node)
}

// deeds are those of all nodes, by their Op.
type deeds [api.NoPrint + 1]deed

func newDeeds() deeds {
	return deeds{
		api.NoSlot:      {flow: (*frame).slot},
		api.NoConst:     {operation: operations.Const},
		api.NoValue:     {operation: operations.Value},
		api.NoCell:      {operation: operations.Cell},
		api.NoCellLoad:  {operation: operations.CellLoad},
		api.NoCellStore: {operation: operations.CellStore},
		api.NoUp:        {operation: operations.Up},
		api.NoUpStore:   {operation: operations.UpStore},
		api.NoBin:       {operation: operations.Bin},
		api.NoNot:       {operation: operations.Not},
		api.NoNeg:       {operation: operations.Neg},
		api.NoLen:       {operation: operations.Len},
		api.NoShow:      {operation: operations.Show},
		api.NoIntBin:    {operation: operations.IntBin},
		api.NoGuard:     {operation: operations.Guard},
		api.NoList:      {operation: operations.List},
		api.NoMap:       {operation: operations.Map},
		api.NoGet:       {operation: operations.Get},
		api.NoPut:       {operation: operations.Put},
		api.NoFn:        {operation: operations.Fn},
		api.NoCall:      {flow: (*frame).call},
		api.NoPrint:     {flow: (*frame).print},
	}
}

// do: a node of the frame's block is done.
func (f *frame) do(m *machine.Machine, x *api.Node) {
	d := &f.code.deeds[x.Op]
	if d.flow != nil {
		d.flow(f, m, x)
		return
	}
	in := operations.In{Program: f.code.program, Fn: f.code.fn, N: x.N, Kind: x.Kind}
	v, ok := m.DoOrFall(func() machine.Did {
		in.By = f.by
		return d.operation(m.Ground(), in, f.args(x.Args))
	})
	if ok {
		f.tells(v)
	}
}

func (f *frame) slot(_ *machine.Machine, x *api.Node) { f.tells(f.slots[x.N]) }

func (f *frame) call(m *machine.Machine, x *api.Node) {
	if fn, ok := m.CallOrFall(f.value(x.Args[0]), len(x.Args)-1); ok {
		f.waits = true
		l := f.args(x.Args)
		m.Begin(fn, l[0], l[1:])
	}
}

func (f *frame) print(m *machine.Machine, x *api.Node) {
	if m.PrintOrFall(f.value(x.Args[0])) {
		f.tells(api.Val{})
	}
}
