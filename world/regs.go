package world

import (
	"gearbox/api"
	"gearbox/prim"
)

// fall: a frame of another gear is one of the first gear then, at the place that its exit, or its state, tells.
func (w *World) fall(f *frame) {
	w.met("falls at " + w.name(f))
	pc, slots := 0, f.slots()
	if f.tour != nil {
		pc = f.tour.graph.States[f.tour.state()].Pc
	} else {
		pc = f.code.Exits[f.code.Code[f.place].Exit].Pc
	}
	locals := w.Program[f.fn].Locals
	*f = frame{fn: f.fn, closed: f.closed, place: pc, locals: slots[:locals:locals], stack: slots[locals:]}
}

// regIns: the instruction of registers at the place of the last frame.
func (w *World) regIns(f *frame) {
	i := f.code.Code[f.place]
	w.met(w.name(f))
	var l []api.Val
	for _, r := range i.Args {
		l = append(l, f.regs[r])
	}
	switch i.Op {
	case api.RJump:
		f.place = int(i.N)
	case api.RUnless:
		switch l[0] {
		case api.Val{Kind: api.Bool}:
			f.place = int(i.N)
		case api.Val{Kind: api.Bool, N: 1}:
			f.place++
		default:
			w.fall(f)
		}
	case api.RLoop:
		if w.point() {
			f.place = int(i.N)
		}
	case api.RCall:
		w.callOrFall(f, l)
	case api.RReturn:
		w.back(l[0])
	case api.RThrow:
		w.fall(f)
	default:
		w.regDeed(f, i, l)
	}
}

// regDeed: an instruction that does something, and goes on.
func (w *World) regDeed(f *frame, i api.RegIns, l []api.Val) {
	d, ok := w.did(f, i, l)
	if !ok {
		return
	}
	if i.To >= 0 {
		f.regs[i.To] = d.Val
	}
	f.place++
}

func (w *World) regOperation(f *frame, i api.RegIns, l []api.Val) prim.Did {
	switch i.Op {
	case api.RConst:
		return w.constant(w.Program[f.fn].Consts[i.N])
	case api.RValue:
		return w.value(api.Val{Kind: i.Kind, N: i.N})
	case api.RMove:
		return w.value(l[0])
	case api.RCell:
		return prim.Cell(w.store, l[0])
	case api.RCellLoad:
		return w.held(l[0])
	case api.RCellStore:
		return w.holds(l[0], l[1])
	case api.RUp:
		return w.held(w.store[f.closed.N-1].L[i.N])
	case api.RUpStore:
		return w.holds(w.store[f.closed.N-1].L[i.N], l[0])
	case api.RIntBin:
		if l[0].Kind != api.Int || l[1].Kind != api.Int {
			return prim.Did{Thrown: "kind"}
		}
		return prim.Bin(w.store, api.Bin(i.N), l[0], l[1])
	case api.RGuard:
		if l[0].Kind != i.Kind {
			return prim.Did{Thrown: "kind"}
		}
		return w.value(api.Val{})
	case api.RFn:
		return w.closure(f, int(i.N), func(int) api.Val {
			v := l[0]
			l = l[1:]
			return v
		})
	}
	return w.onValues(alike(i.Op), int(i.N), l)
}

// alike: the Op that does in the first gear what one of registers does.
func alike(op api.RegOp) api.Op {
	switch op {
	case api.RBin:
		return api.OpBin
	case api.RNot:
		return api.OpNot
	case api.RNeg:
		return api.OpNeg
	case api.RLen:
		return api.OpLen
	case api.RShow:
		return api.OpShow
	case api.RList:
		return api.OpList
	case api.RMap:
		return api.OpMap
	case api.RGet:
		return api.OpGet
	case api.RPut:
		return api.OpPut
	}
	return api.OpPrint
}
