package gen

import "gearbox/api"

func (w *writer) exprs(l []api.Expr) {
	for i := range l {
		w.expr(&l[i])
	}
}

func (w *writer) expr(x *api.Expr) {
	switch x.Kind {
	case api.ExAnd:
		w.and(x)
	case api.ExOr:
		w.or(x)
	default:
		w.exprs(x.Args)
		op, a := w.lastOfExpr(x)
		w.put(x.Line, op, a)
	}
}

// and: if the first one is no, it is what comes of both.
func (w *writer) and(x *api.Expr) {
	w.expr(&x.Args[0])
	w.put(x.Line, api.OpDup, 0)
	end := w.jump(x.Line, api.OpUnless)
	w.put(x.Line, api.OpPop, 0)
	w.expr(&x.Args[1])
	end()
}

// or: if the first one is yes, it is what comes of both.
func (w *writer) or(x *api.Expr) {
	w.expr(&x.Args[0])
	w.put(x.Line, api.OpDup, 0)
	second := w.jump(x.Line, api.OpUnless)
	end := w.jump(x.Line, api.OpJump)
	second()
	w.put(x.Line, api.OpPop, 0)
	w.expr(&x.Args[1])
	end()
}

// lastOfExpr: the instruction behind the code of its Args, of an expression that has just this one.
func (w *writer) lastOfExpr(x *api.Expr) (api.Op, int) {
	switch x.Kind {
	case api.ExNot:
		return api.OpNot, 0
	case api.ExNeg:
		return api.OpNeg, 0
	case api.ExLen:
		return api.OpLen, 0
	case api.ExShow:
		return api.OpShow, 0
	case api.ExGet:
		return api.OpGet, 0
	case api.ExBin:
		return api.OpBin, int(w.program.bins[x.S])
	case api.ExList:
		return api.OpList, len(x.Args)
	case api.ExMap:
		return api.OpMap, len(x.Args) / 2
	case api.ExCall:
		return api.OpCall, len(x.Args) - 1
	case api.ExFn:
		return api.OpFn, w.program.function(w, x)
	}
	return w.atom(x)
}

// atom: the code of an expression of one word.
func (w *writer) atom(x *api.Expr) (api.Op, int) {
	switch x.Kind {
	case api.ExInt:
		return api.OpConst, w.constant(api.Const{Kind: api.Int, N: x.N})
	case api.ExText:
		return api.OpConst, w.constant(api.Const{Kind: api.Text, S: x.S})
	case api.ExName:
		return w.named(x.S, reach{api.OpLoad, api.OpCellLoad, api.OpUp})
	case api.ExBool:
		if x.N == 1 {
			return api.OpYes, 0
		}
		return api.OpNo, 0
	}
	return api.OpNil, 0
}
