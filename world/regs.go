package world

import (
	"gearbox/api"
	"gearbox/prim"
	"gearbox/show"
)

// fall: a frame of registers is one of the first gear then, at the place that its exit tells.
func (w *World) fall(f *frame) {
	i := f.code.Code[f.place]
	w.met("falls at " + w.name(f))
	slots := f.slots()
	locals := w.Program[f.fn].Locals
	*f = frame{fn: f.fn, closed: f.closed, place: f.code.Exits[i.Exit].Pc, locals: slots[:locals:locals], stack: slots[locals:]}
}

// regIns: the instruction of registers at the place of the last frame.
func (w *World) regIns(f *frame) {
	i := f.code.Code[f.place]
	w.met(w.name(f))
	var l []api.Val
	for _, r := range i.Args {
		l = append(l, f.regs[r])
	}
	switch i.Op {
	case api.RJump:
		f.place = int(i.N)
	case api.RUnless:
		switch l[0] {
		case api.Val{Kind: api.Bool}:
			f.place = int(i.N)
		case api.Val{Kind: api.Bool, N: 1}:
			f.place++
		default:
			w.fall(f)
		}
	case api.RLoop:
		if w.point() {
			f.place = int(i.N)
		}
	case api.RCall:
		if w.refuses(l[0], len(l)-1) != "" {
			w.fall(f)
		} else if w.point() {
			f.taken = len(l)
			w.begin(w.store[l[0].N-1].Fn, l[0], l[1:])
		}
	case api.RReturn:
		w.back(l[0])
	case api.RThrow:
		w.fall(f)
	default:
		w.regDeed(f, i, l)
	}
}

// regDeed: an instruction that does something, and goes on.
func (w *World) regDeed(f *frame, i api.RegIns, l []api.Val) {
	d := w.regOperation(f, i, l)
	if d.Thrown != "" {
		w.fall(f)
		return
	}
	if !w.asks(d.Words) {
		return
	}
	w.store = d.Store
	if i.To >= 0 {
		f.regs[i.To] = d.Val
	}
	if i.Op == api.RPrint {
		s, _ := show.Text(w.store, l[0])
		w.out.Out = append(w.out.Out, s)
	}
	f.place++
}

func (w *World) regOperation(f *frame, i api.RegIns, l []api.Val) prim.Did {
	switch i.Op {
	case api.RConst:
		return w.constant(w.Program[f.fn].Consts[i.N])
	case api.RValue:
		return w.value(api.Val{Kind: i.Kind, N: i.N})
	case api.RMove:
		return w.value(l[0])
	case api.RCell:
		return prim.Cell(w.store, l[0])
	case api.RCellLoad:
		return w.held(l[0])
	case api.RCellStore:
		return w.holds(l[0], l[1])
	case api.RUp:
		return w.held(w.store[f.closed.N-1].L[i.N])
	case api.RUpStore:
		return w.holds(w.store[f.closed.N-1].L[i.N], l[0])
	case api.RIntBin:
		if l[0].Kind != api.Int || l[1].Kind != api.Int {
			return prim.Did{Thrown: "kind"}
		}
		return prim.Bin(w.store, api.Bin(i.N), l[0], l[1])
	case api.RGuard:
		if l[0].Kind != i.Kind {
			return prim.Did{Thrown: "kind"}
		}
		return w.value(api.Val{})
	case api.RFn:
		return w.closure(f, int(i.N), func(int) api.Val {
			v := l[0]
			l = l[1:]
			return v
		})
	}
	return w.onValues(alike(i.Op), int(i.N), l)
}

// alike: the Op that does in the first gear what one of registers does.
func alike(op api.RegOp) api.Op {
	switch op {
	case api.RBin:
		return api.OpBin
	case api.RNot:
		return api.OpNot
	case api.RNeg:
		return api.OpNeg
	case api.RLen:
		return api.OpLen
	case api.RShow:
		return api.OpShow
	case api.RList:
		return api.OpList
	case api.RMap:
		return api.OpMap
	case api.RGet:
		return api.OpGet
	case api.RPut:
		return api.OpPut
	}
	return api.OpPrint
}
