package samples

import (
	"slices"

	"gearbox/api"
)

// Turns: code of registers of a function that does each thing in its turn, as chapter 15 makes it. Depths are those of the function's places.
func Turns(p api.Program, fn int, depths []int) api.RegFn {
	return newTurner(nil, p, fn, depths).turns()
}

// Detours: likewise, with something beside that comes to the same: other registers, values that are known in place of them, guards, numbers that are taken to be whole, copies of what is taken.
func Detours(d *Dice, p api.Program, fn int, depths []int) api.RegFn {
	return newTurner(d, p, fn, depths).turns()
}

// turner makes code place by place. Without dice it makes no detours.
type turner struct {
	dice   *Dice
	p      api.Program
	f      *api.Fn
	depths []int
	code   api.RegFn
	first  []int           // of each place, the first instruction that is made for it or behind it
	jumps  map[int]int     // of each instruction that names a place: which
	reg    []int           // of each slot
	spare  int             // the first register that is no slot's
	known  map[int]api.Val // slots that are sure to hold a value that is no object
	pc     int
}

func newTurner(d *Dice, p api.Program, fn int, depths []int) *turner {
	f := &p[fn]
	slots := f.Locals + max(0, slices.Max(depths))
	t := &turner{dice: d, p: p, f: f, depths: depths, first: make([]int, len(f.Code)), jumps: map[int]int{}, spare: slots, known: map[int]api.Val{}}
	t.code.Regs = slots
	for k := range slots {
		t.reg = append(t.reg, k)
	}
	if d != nil {
		t.code.Regs += 4
		for k := range t.reg {
			with := d.Below(k + 1)
			t.reg[k], t.reg[with] = t.reg[with], t.reg[k]
		}
	}
	return t
}

func (t *turner) turns() api.RegFn {
	led := map[int]int{0: 0} // places that are come to from elsewhere
	for pc, i := range t.f.Code {
		if t.depths[pc] >= 0 && (i.Op == api.OpJump || i.Op == api.OpUnless || i.Op == api.OpLoop) {
			led[i.A]++
		}
	}
	for _, h := range t.f.Handlers {
		led[h.At]++
	}
	for pc := range t.f.Code {
		t.first[pc] = len(t.code.Code)
		if t.depths[pc] < 0 {
			continue
		}
		if _, is := led[pc]; is {
			clear(t.known)
		}
		t.pc = pc
		t.detour()
		t.turn(t.f.Code[pc], t.f.Locals+t.depths[pc])
	}
	for at, pc := range t.jumps {
		t.code.Code[at].N = int64(t.first[pc])
	}
	t.entries()
	return t.code
}

// entries: the beginning, and all places that loops go back to.
func (t *turner) entries() {
	var l []int
	for pc, i := range t.f.Code {
		if t.depths[pc] >= 0 && i.Op == api.OpLoop {
			l = append(l, i.A)
		}
	}
	l = append(l, 0)
	slices.Sort(l)
	for _, pc := range slices.Compact(l) {
		t.code.Entries = append(t.code.Entries, api.Entry{Pc: pc, At: t.first[pc], Slots: slices.Clone(t.reg[:t.f.Locals+t.depths[pc]])})
	}
}

// put: an instruction; its args are slots, its To, too.
func (t *turner) put(op api.RegOp, to int, n int64, args ...int) {
	i := api.RegIns{Op: op, To: -1, N: n, Exit: -1}
	if to >= 0 {
		i.To = t.reg[to]
	}
	for _, a := range args {
		i.Args = append(i.Args, t.reg[a])
	}
	t.copies(&i)
	if op != api.RValue && op != api.RMove && op != api.RUp && op != api.RJump && op != api.RReturn {
		i.Exit = t.exit()
	}
	t.code.Code = append(t.code.Code, i)
	if to >= 0 {
		delete(t.known, to)
	}
}

// exit: of the place.
func (t *turner) exit() int {
	x := api.Exit{Pc: t.pc}
	for k, r := range t.reg[:t.f.Locals+t.depths[t.pc]] {
		loc := api.Loc{Reg: r}
		if v, is := t.known[k]; is && t.dice != nil && t.dice.Below(2) == 0 {
			loc = api.Loc{Reg: -1, Kind: v.Kind, N: v.N}
		}
		x.Slots = append(x.Slots, loc)
	}
	t.code.Exits = append(t.code.Exits, x)
	return len(t.code.Exits) - 1
}

// value: a slot holds a value that is no object.
func (t *turner) value(to int, v api.Val) {
	t.put(api.RValue, to, v.N)
	t.code.Code[len(t.code.Code)-1].Kind = v.Kind
	t.known[to] = v
}

// to: an instruction that names a place of the function's code.
func (t *turner) to(op api.RegOp, pc int, args ...int) {
	t.put(op, -1, 0, args...)
	t.jumps[len(t.code.Code)-1] = pc
}

// span: so many slots, up to the last one.
func span(from, to int) []int {
	var l []int
	for k := from; k < to; k++ {
		l = append(l, k)
	}
	return l
}

// turn: what is made for an instruction, with so many slots ahead of it.
func (t *turner) turn(i api.Ins, top int) {
	n := int64(i.A)
	switch i.Op {
	case api.OpConst:
		t.put(api.RConst, top, n)
	case api.OpNil:
		t.value(top, api.Val{})
	case api.OpYes:
		t.value(top, api.Val{Kind: api.Bool, N: 1})
	case api.OpNo:
		t.value(top, api.Val{Kind: api.Bool})
	case api.OpLoad:
		t.put(api.RMove, top, 0, i.A)
	case api.OpDup:
		t.put(api.RMove, top, 0, top-1)
	case api.OpStore:
		t.put(api.RMove, i.A, 0, top-1)
	case api.OpCell:
		t.put(api.RCell, i.A, 0, i.A)
	case api.OpCellLoad:
		t.put(api.RCellLoad, top, 0, i.A)
	case api.OpCellStore:
		t.put(api.RCellStore, -1, 0, i.A, top-1)
	case api.OpUp:
		t.put(api.RUp, top, n)
	case api.OpUpStore:
		t.put(api.RUpStore, -1, n, top-1)
	case api.OpPop:
	case api.OpJump:
		t.to(api.RJump, i.A)
	case api.OpUnless:
		t.to(api.RUnless, i.A, top-1)
	case api.OpLoop:
		t.to(api.RLoop, i.A)
	default:
		t.ofValues(i, top)
	}
}

// ofValues: likewise, of an instruction that does something with the last values.
func (t *turner) ofValues(i api.Ins, top int) {
	switch i.Op {
	case api.OpBin:
		op := api.RBin
		if t.dice != nil && i.A <= int(api.Most) && t.dice.Below(2) == 0 {
			op = api.RIntBin
		}
		t.put(op, top-2, int64(i.A), top-2, top-1)
	case api.OpNot, api.OpNeg, api.OpLen, api.OpShow:
		t.put(api.RNot+api.RegOp(i.Op-api.OpNot), top-1, 0, top-1)
	case api.OpList:
		t.put(api.RList, top-i.A, 0, span(top-i.A, top)...)
	case api.OpMap:
		t.put(api.RMap, top-2*i.A, 0, span(top-2*i.A, top)...)
	case api.OpGet:
		t.put(api.RGet, top-2, 0, top-2, top-1)
	case api.OpPut:
		t.put(api.RPut, -1, 0, top-3, top-2, top-1)
	case api.OpFn:
		var own []int
		for _, c := range t.p[i.A].Caps {
			if !c.Up {
				own = append(own, c.N)
			}
		}
		t.put(api.RFn, top, int64(i.A), own...)
	case api.OpCall:
		t.put(api.RCall, top-i.A-1, 0, span(top-i.A-1, top)...)
	case api.OpReturn:
		t.put(api.RReturn, -1, 0, top-1)
	case api.OpThrow:
		t.put(api.RThrow, -1, 0, top-1)
	case api.OpPrint:
		t.put(api.RPrint, -1, 0, top-1)
	}
}

// detour: something ahead of an instruction that makes no difference.
func (t *turner) detour() {
	if t.dice == nil {
		return
	}
	slots := t.f.Locals + t.depths[t.pc]
	kind := api.Kind(t.dice.Below(int(api.Cell)))
	spare := t.spare + t.dice.Below(4)
	if slots == 0 {
		return
	}
	of := t.reg[t.dice.Below(slots)]
	switch t.dice.Below(40) {
	case 0:
		t.code.Code = append(t.code.Code, api.RegIns{Op: api.RGuard, To: -1, Args: []int{of}, Kind: kind, Exit: t.exit()})
	case 1:
		t.code.Code = append(t.code.Code, api.RegIns{Op: api.RThrow, To: -1, Args: []int{of}, Exit: t.exit()})
	case 2, 3:
		t.code.Code = append(t.code.Code, api.RegIns{Op: api.RMove, To: spare, Args: []int{of}, Exit: -1})
	case 4:
		t.code.Code = append(t.code.Code, api.RegIns{Op: api.RJump, To: -1, N: int64(len(t.code.Code)) + 1, Exit: -1})
	case 5:
		t.code.Code = append(t.code.Code, api.RegIns{Op: api.RMove, To: of, Args: []int{of}, Exit: -1})
	}
}

// copies: an instruction takes its first values from registers that no exit tells.
func (t *turner) copies(i *api.RegIns) {
	if t.dice == nil || len(i.Args) == 0 || t.dice.Below(6) > 0 {
		return
	}
	for k := range min(4, len(i.Args)) {
		t.code.Code = append(t.code.Code, api.RegIns{Op: api.RMove, To: t.spare + k, Args: []int{i.Args[k]}, Exit: -1})
		i.Args[k] = t.spare + k
	}
}
