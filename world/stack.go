package world

import (
	"slices"

	"gearbox/api"
	"gearbox/prim"
)

// instruction: the one at the place of the last frame.
func (w *World) instruction(f *frame) {
	i := w.Program[f.fn].Code[f.place]
	w.met(w.name(f))
	switch i.Op {
	case api.OpJump:
		f.place = i.A
	case api.OpUnless:
		switch f.stack[len(f.stack)-1] {
		case api.Val{Kind: api.Bool}:
			f.stack, f.place = f.stack[:len(f.stack)-1], i.A
		case api.Val{Kind: api.Bool, N: 1}:
			f.stack, f.place = f.stack[:len(f.stack)-1], f.place+1
		default:
			w.throwText("kind")
		}
	case api.OpLoop:
		if w.point() {
			f.place = i.A
			w.turns(f)
		}
	case api.OpCall:
		w.call(f, i.A)
	case api.OpReturn:
		w.back(f.stack[len(f.stack)-1])
	case api.OpThrow:
		if v := f.stack[len(f.stack)-1]; v.Kind == api.Cell {
			w.throwText("kind")
		} else {
			w.throw(v)
		}
	default:
		w.deed(f, i)
	}
}

// turns: a frame that looped goes on in a graph, if there is one.
func (w *World) turns(f *frame) {
	for _, g := range w.Turns {
		if g.Fn == f.fn && g.Pc == f.place {
			w.met("goes on in a graph")
			f.enter(&g)
		}
	}
}

func (w *World) call(f *frame, n int) {
	if !w.point() {
		return
	}
	l := f.stack[len(f.stack)-n-1:]
	if t := w.refuses(l[0], n); t != "" {
		w.throwText(t)
		return
	}
	f.stack = slices.Clone(f.stack[:len(f.stack)-n-1])
	w.begin(w.store[l[0].N-1].Fn, l[0], l[1:])
}

// takes: how many values an instruction takes that is one of the others.
func takes(i api.Ins) int {
	switch i.Op {
	case api.OpStore, api.OpCellStore, api.OpUpStore, api.OpPop, api.OpPrint, api.OpNot, api.OpNeg, api.OpLen, api.OpShow:
		return 1
	case api.OpBin, api.OpGet:
		return 2
	case api.OpPut:
		return 3
	case api.OpList:
		return i.A
	case api.OpMap:
		return 2 * i.A
	}
	return 0
}

// deed: an instruction that takes values, does something, pushes or not, and goes on.
func (w *World) deed(f *frame, i api.Ins) {
	n := takes(i)
	l := slices.Clone(f.stack[len(f.stack)-n:])
	d := w.operation(f, i, l)
	if d.Thrown != "" {
		w.throwText(d.Thrown)
		return
	}
	if !w.asks(d.Words) {
		return
	}
	w.store = d.Store
	f.stack = slices.Clone(f.stack[:len(f.stack)-n])
	f.place++
	switch i.Op {
	case api.OpStore:
		f.locals[i.A] = l[0]
	case api.OpCell:
		f.locals[i.A] = d.Val
	case api.OpPrint:
		w.prints(l[0])
	case api.OpCellStore, api.OpUpStore, api.OpPop, api.OpPut:
	default:
		f.stack = append(f.stack, d.Val)
	}
}

func (w *World) operation(f *frame, i api.Ins, l []api.Val) prim.Did {
	switch i.Op {
	case api.OpConst:
		return w.constant(w.Program[f.fn].Consts[i.A])
	case api.OpYes:
		return w.value(api.Val{Kind: api.Bool, N: 1})
	case api.OpNo:
		return w.value(api.Val{Kind: api.Bool})
	case api.OpLoad:
		return w.value(f.locals[i.A])
	case api.OpDup:
		return w.value(f.stack[len(f.stack)-1])
	case api.OpCell:
		return prim.Cell(w.store, f.locals[i.A])
	case api.OpCellLoad:
		return w.held(f.locals[i.A])
	case api.OpCellStore:
		return w.holds(f.locals[i.A], l[0])
	case api.OpUp:
		return w.held(w.store[f.closed.N-1].L[i.A])
	case api.OpUpStore:
		return w.holds(w.store[f.closed.N-1].L[i.A], l[0])
	case api.OpFn:
		return w.closure(f, i.A, func(local int) api.Val { return f.locals[local] })
	case api.OpNil, api.OpStore, api.OpPop:
		return w.value(api.Val{})
	}
	return w.onValues(i.Op, i.A, l)
}
