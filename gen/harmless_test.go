package gen_test

import (
	"testing"

	"gearbox/api"
)

// effect: how many values an instruction takes and leaves, as chapter 9 says; whether its number may be.
func effect(p api.Program, f api.Fn, pc int) (takes, leaves int, ok bool) {
	a := f.Code[pc].A
	ahead := a > pc && a < len(f.Code)
	below := func(n int) bool { return a >= 0 && a < n }
	switch f.Code[pc].Op {
	case api.OpConst:
		return 0, 1, below(len(f.Consts))
	case api.OpNil, api.OpYes, api.OpNo:
		return 0, 1, a == 0
	case api.OpLoad, api.OpCellLoad:
		return 0, 1, below(f.Locals)
	case api.OpStore, api.OpCellStore:
		return 1, 0, below(f.Locals)
	case api.OpCell:
		return 0, 0, below(f.Locals)
	case api.OpUp:
		return 0, 1, below(len(f.Caps))
	case api.OpUpStore:
		return 1, 0, below(len(f.Caps))
	case api.OpPop, api.OpPrint, api.OpReturn, api.OpThrow:
		return 1, 0, a == 0
	case api.OpDup:
		return 1, 2, a == 0
	case api.OpBin:
		return 2, 1, a >= int(api.Add) && a <= int(api.Unlike)
	case api.OpNot, api.OpNeg, api.OpLen, api.OpShow:
		return 1, 1, a == 0
	case api.OpJump:
		return 0, 0, ahead
	case api.OpUnless:
		return 1, 0, ahead
	case api.OpLoop:
		return 0, 0, a >= 0 && a <= pc
	case api.OpList:
		return a, 1, below(api.MaxStack + 1)
	case api.OpMap:
		return 2 * a, 1, below(api.MaxStack + 1)
	case api.OpCall:
		return a + 1, 1, below(api.MaxStack + 1)
	case api.OpGet:
		return 2, 1, a == 0
	case api.OpPut:
		return 3, 0, a == 0
	case api.OpFn:
		return 0, 1, a >= 1 && a < len(p)
	}
	return 0, 0, false
}

// harmless: code as chapter 9 asks for it: what each expression's and each statement's row leaves on the stack fits together.
func harmless(t *testing.T, p api.Program) {
	t.Helper()
	makers := make([]int, len(p))
	for i, f := range p {
		if f.Params > f.Locals || f.Locals > api.MaxLocals || len(f.Lines) != len(f.Code) || len(f.Code) > api.MaxCode {
			t.Errorf("function %d: %d params, %d locals, %d lines, %d instructions", i, f.Params, f.Locals, len(f.Lines), len(f.Code))
			return
		}
		for pc, ins := range f.Code {
			if _, _, ok := effect(p, f, pc); !ok {
				t.Errorf("function %d, place %d: %s", i, pc, told(f))
				return
			}
			if ins.Op == api.OpFn {
				makers[ins.A]++
				capsFit(t, p[ins.A], f)
			}
		}
		depths(t, p, f)
	}
	for i, n := range makers {
		if n != min(i, 1) {
			t.Errorf("function %d is made at %d places", i, n)
		}
	}
}

func capsFit(t *testing.T, f, around api.Fn) {
	t.Helper()
	for _, c := range f.Caps {
		if c.N < 0 || c.Up && c.N >= len(around.Caps) || !c.Up && c.N >= around.Locals {
			t.Errorf("caps %v", f.Caps)
		}
	}
}

// depths: each place has one depth, on whichever way it is come to.
func depths(t *testing.T, p api.Program, f api.Fn) {
	t.Helper()
	was := map[int]int{}
	type step struct{ pc, deep int }
	todo := []step{{}}
	for len(todo) > 0 {
		s := todo[len(todo)-1]
		todo = todo[:len(todo)-1]
		if old, ok := was[s.pc]; ok {
			if old != s.deep {
				t.Fatalf("place %d is %d and %d deep: %s", s.pc, old, s.deep, told(f))
			}
			continue
		}
		was[s.pc] = s.deep
		takes, leaves, _ := effect(p, f, s.pc)
		ins := f.Code[s.pc]
		next := s.deep - takes + leaves
		if takes > s.deep || next > api.MaxStack || ins.Op == api.OpLoop && s.deep != 0 {
			t.Fatalf("place %d, %d deep: %s", s.pc, s.deep, told(f))
		}
		for _, h := range f.Handlers {
			if h.From < 0 || h.From >= h.To || h.To > h.At || h.At >= len(f.Code) || h.Deep != 0 {
				t.Fatalf("handler %v: %s", h, told(f))
			}
			if h.From <= s.pc && s.pc < h.To {
				todo = append(todo, step{h.At, 1})
			}
		}
		switch ins.Op {
		case api.OpJump, api.OpLoop:
			todo = append(todo, step{ins.A, next})
		case api.OpUnless:
			todo = append(todo, step{ins.A, next}, step{s.pc + 1, next})
		case api.OpReturn, api.OpThrow:
		default:
			todo = append(todo, step{s.pc + 1, next})
		}
	}
}
