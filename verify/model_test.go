package verify_test

import (
	"slices"

	"gearbox/api"
)

// A second telling of the chapter: each Op's row is worked out where it is asked for, and each place is held against all others and all handlers.

// span is the numbers that an instruction may have, from the least to the greatest.
type span struct{ least, most int }

func (s span) has(n int) bool { return s.least <= n && n <= s.most }

// modelRow: an instruction's numbers, what it takes, what it leaves; false, if it is of no Op.
func modelRow(p api.Program, f api.Fn, pc int) (numbers span, takes, leaves int, ok bool) {
	a := f.Code[pc].A
	switch f.Code[pc].Op {
	case api.OpConst:
		return span{0, len(f.Consts) - 1}, 0, 1, true
	case api.OpNil, api.OpYes, api.OpNo:
		return span{}, 0, 1, true
	case api.OpLoad, api.OpCellLoad:
		return span{0, f.Locals - 1}, 0, 1, true
	case api.OpStore, api.OpCellStore:
		return span{0, f.Locals - 1}, 1, 0, true
	case api.OpCell:
		return span{0, f.Locals - 1}, 0, 0, true
	case api.OpUp:
		return span{0, len(f.Caps) - 1}, 0, 1, true
	case api.OpUpStore:
		return span{0, len(f.Caps) - 1}, 1, 0, true
	case api.OpPop, api.OpPrint, api.OpReturn, api.OpThrow:
		return span{}, 1, 0, true
	case api.OpDup:
		return span{}, 1, 2, true
	case api.OpBin:
		return span{1, 9}, 2, 1, true
	case api.OpNot, api.OpNeg, api.OpLen, api.OpShow:
		return span{}, 1, 1, true
	case api.OpJump:
		return span{pc + 1, len(f.Code) - 1}, 0, 0, true
	case api.OpUnless:
		return span{pc + 1, len(f.Code) - 1}, 1, 0, true
	case api.OpLoop:
		return span{0, pc}, 0, 0, true
	case api.OpList:
		return span{0, 256}, a, 1, true
	case api.OpMap:
		return span{0, 256}, 2 * a, 1, true
	case api.OpCall:
		return span{0, 256}, a + 1, 1, true
	case api.OpGet:
		return span{}, 2, 1, true
	case api.OpPut:
		return span{}, 3, 0, true
	case api.OpFn:
		return span{1, len(p) - 1}, 0, 1, true
	}
	return span{}, 0, 0, false
}

func modelHead(f api.Fn, main bool) bool {
	if main && (f.Params != 0 || len(f.Caps) != 0) {
		return false
	}
	if len(f.Name) > 4096 || f.Params < 0 || f.Params > f.Locals || f.Locals > 64 || len(f.Caps) > 4096 || len(f.Consts) > 16384 || len(f.Handlers) > 16384 {
		return false
	}
	if len(f.Code) == 0 || len(f.Code) > 16384 || len(f.Lines) != len(f.Code) || slices.Min(f.Lines) < 0 {
		return false
	}
	for _, c := range f.Consts {
		if isInt, isText := c.Kind == api.Int && len(c.S) == 0, c.Kind == api.Text && len(c.S) <= 4096 && c.N == 0; !isInt && !isText {
			return false
		}
	}
	for _, h := range f.Handlers {
		if h.From < 0 || h.To <= h.From || h.At < h.To || h.At >= len(f.Code) || h.Deep < 0 || h.Deep > 255 {
			return false
		}
	}
	return true
}

// modelMakers: which functions make one, of those ahead of a place and of that place.
func modelMakers(p api.Program, made, fn, pc int) map[int]bool {
	makers := map[int]bool{}
	for i := 0; i <= fn; i++ {
		for j, ins := range p[i].Code {
			if ins == (api.Ins{Op: api.OpFn, A: made}) && (i < fn || j <= pc) {
				makers[i] = true
			}
		}
	}
	return makers
}

// modelPlace: may an instruction be where it is?
func modelPlace(p api.Program, fn, pc int) bool {
	f := p[fn]
	ins := f.Code[pc]
	if numbers, _, _, ok := modelRow(p, f, pc); !ok || !numbers.has(ins.A) {
		return false
	}
	if pc+1 == len(f.Code) && !slices.Contains([]api.Op{api.OpReturn, api.OpThrow, api.OpLoop}, ins.Op) {
		return false
	}
	if ins.Op != api.OpFn {
		return true
	}
	for _, c := range p[ins.A].Caps {
		if cells := map[bool]int{false: f.Locals, true: len(f.Caps)}[c.Up]; !(span{0, cells - 1}).has(c.N) {
			return false
		}
	}
	return len(modelMakers(p, ins.A, fn, pc)) == 1
}

// modelDepths: what each place is told; the place of the first fault, or -1.
func modelDepths(p api.Program, f api.Fn) ([]int, int) {
	told, taken := make([]int, len(f.Code)), make([]bool, len(f.Code))
	for i := 1; i < len(told); i++ {
		told[i] = -1
	}
	for {
		pc := 0
		for pc < len(told) && (told[pc] < 0 || taken[pc]) {
			pc++
		}
		if pc == len(told) {
			return told, -1
		}
		taken[pc] = true
		if !modelTake(p, f, pc, told) {
			return told, pc
		}
	}
}

func modelTake(p api.Program, f api.Fn, pc int, told []int) bool {
	d := told[pc]
	op := f.Code[pc].Op
	_, takes, leaves, _ := modelRow(p, f, pc)
	if takes > d || d-takes+leaves > 256 || op == api.OpLoop && d != 0 {
		return false
	}
	var places, depths []int
	for _, h := range f.Handlers {
		if pc < h.From || pc >= h.To {
			continue
		}
		if h.Deep > d {
			return false
		}
		places, depths = append(places, h.At), append(depths, h.Deep+1)
	}
	if op != api.OpJump && op != api.OpLoop && op != api.OpReturn && op != api.OpThrow {
		places, depths = append(places, pc+1), append(depths, d-takes+leaves)
	}
	if op == api.OpJump || op == api.OpLoop || op == api.OpUnless {
		places, depths = append(places, f.Code[pc].A), append(depths, d-takes+leaves)
	}
	for i, place := range places {
		if told[place] >= 0 && told[place] != depths[i] {
			return false
		}
		told[place] = depths[i]
	}
	return true
}

func modelFault(p api.Program, fn int) int {
	if !modelHead(p[fn], fn == 0) {
		return 0
	}
	for pc := range p[fn].Code {
		if !modelPlace(p, fn, pc) {
			return pc
		}
	}
	_, pc := modelDepths(p, p[fn])
	return pc
}

func modelCheck(p api.Program) (fn, pc int, e api.Errno) {
	if len(p) == 0 || len(p) > 256 {
		return 0, 0, api.ErrForm
	}
	for fn := range p {
		if pc := modelFault(p, fn); pc >= 0 {
			return fn, pc, api.ErrForm
		}
	}
	for fn, f := range p {
		if len(f.Caps) > 0 && len(modelMakers(p, fn, len(p)-1, len(p[len(p)-1].Code))) == 0 {
			return fn, 0, api.ErrForm
		}
	}
	return 0, 0, api.OK
}
