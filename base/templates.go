package base

import "gearbox/api"

// template is the instruction that is made for one of a function's code, whose number is a; t is the first register above its slots.
type template func(w *writer, t, a int) api.RegIns

// templates are those of the chapter's table, by their Op. Where there is none, no instruction is made.
type templates [api.OpPrint + 1]template

func newTemplates() templates {
	return templates{
		api.OpConst:     func(w *writer, t, a int) api.RegIns { return w.told(api.RConst, t, a) },
		api.OpNil:       value(api.Nil, 0),
		api.OpYes:       value(api.Bool, 1),
		api.OpNo:        value(api.Bool, 0),
		api.OpLoad:      func(_ *writer, t, a int) api.RegIns { return sure(api.RMove, t, 0, a) },
		api.OpDup:       func(_ *writer, t, _ int) api.RegIns { return sure(api.RMove, t, 0, t-1) },
		api.OpStore:     func(_ *writer, t, a int) api.RegIns { return sure(api.RMove, a, 0, t-1) },
		api.OpCell:      func(w *writer, _, a int) api.RegIns { return w.told(api.RCell, a, 0, a) },
		api.OpCellLoad:  func(w *writer, t, a int) api.RegIns { return w.told(api.RCellLoad, t, 0, a) },
		api.OpCellStore: func(w *writer, t, a int) api.RegIns { return w.told(api.RCellStore, none, 0, a, t-1) },
		api.OpUp:        func(_ *writer, t, a int) api.RegIns { return sure(api.RUp, t, a) },
		api.OpUpStore:   func(w *writer, t, a int) api.RegIns { return w.told(api.RUpStore, none, a, t-1) },
		api.OpBin:       func(w *writer, t, a int) api.RegIns { return w.told(api.RBin, t-2, a, t-2, t-1) },
		api.OpNot:       inPlace(api.RNot),
		api.OpNeg:       inPlace(api.RNeg),
		api.OpLen:       inPlace(api.RLen),
		api.OpShow:      inPlace(api.RShow),
		api.OpJump:      func(w *writer, _, a int) api.RegIns { return sure(api.RJump, none, w.at[a]) },
		api.OpUnless:    func(w *writer, t, a int) api.RegIns { return w.told(api.RUnless, none, w.at[a], t-1) },
		api.OpLoop:      func(w *writer, _, a int) api.RegIns { return w.told(api.RLoop, none, w.at[a]) },
		api.OpList:      func(w *writer, t, a int) api.RegIns { return w.ofLast(api.RList, t, a) },
		api.OpMap:       func(w *writer, t, a int) api.RegIns { return w.ofLast(api.RMap, t, 2*a) },
		api.OpGet:       func(w *writer, t, _ int) api.RegIns { return w.ofLast(api.RGet, t, 2) },
		api.OpPut:       func(w *writer, t, _ int) api.RegIns { return w.told(api.RPut, none, 0, t-3, t-2, t-1) },
		api.OpFn:        func(w *writer, t, a int) api.RegIns { return w.told(api.RFn, t, a, w.ownCells(a)...) },
		api.OpCall:      func(w *writer, t, a int) api.RegIns { return w.ofLast(api.RCall, t, a+1) },
		api.OpReturn:    func(_ *writer, t, _ int) api.RegIns { return sure(api.RReturn, none, 0, t-1) },
		api.OpThrow:     func(w *writer, t, _ int) api.RegIns { return w.told(api.RThrow, none, 0, t-1) },
		api.OpPrint:     func(w *writer, t, _ int) api.RegIns { return w.told(api.RPrint, none, 0, t-1) },
	}
}

// value: it is put on the stack.
func value(kind api.Kind, n int) template {
	return func(_ *writer, t, _ int) api.RegIns {
		i := sure(api.RValue, t, n)
		i.Kind = kind
		return i
	}
}

// inPlace: what comes of the last value stands where that stood.
func inPlace(op api.RegOp) template {
	return func(w *writer, t, _ int) api.RegIns { return w.ofLast(op, t, 1) }
}
