package reg

import (
	"slices"

	"gearbox/api"
)

// checker holds code of registers against the function whose code it may be.
type checker struct {
	p      api.Program
	fn     *api.Fn
	depths []int // of each place of the function: how deep its stack is; below 0: it is not come to
	cells  []int // of each function: over how many cells of a frame's own an OpFn of this function makes it; below 0: none does
	code   api.RegFn
	rows   rows
}

func newChecker(p api.Program, fn int, depths []int, c api.RegFn) *checker {
	k := &checker{p: p, fn: &p[fn], depths: depths, cells: slices.Repeat([]int{-1}, len(p)), code: c, rows: newRows()}
	for _, i := range k.fn.Code {
		if i.Op == api.OpFn && k.cells[i.A] < 0 {
			k.cells[i.A] = ownCells(p[i.A].Caps)
		}
	}
	return k
}

// ownCells: how many cells are not from further up.
func ownCells(caps []api.Cap) int {
	n := 0
	for _, c := range caps {
		if !c.Up {
			n++
		}
	}
	return n
}

func (k *checker) mayBe() bool {
	c := k.code
	if c.Regs < 0 || c.Regs > api.MaxRegs || len(c.Code) == 0 || !k.entriesMayBe() {
		return false
	}
	for _, x := range c.Exits {
		if !k.exitMayBe(x) {
			return false
		}
	}
	for at := range c.Code {
		if !k.insMayBe(at) {
			return false
		}
	}
	return k.rows[c.Code[len(c.Code)-1].Op].ends
}

// slots: how many the function's frame has at a place; false, if that is not come to.
func (k *checker) slots(pc int) (int, bool) {
	if !within(pc, len(k.depths)) || k.depths[pc] < 0 {
		return 0, false
	}
	return k.fn.Locals + k.depths[pc], true
}

// within: is it one of the first so many numbers?
func within(n, many int) bool { return n >= 0 && n < many }

func (k *checker) isReg(r int) bool { return within(r, k.code.Regs) }

func (k *checker) exitMayBe(x api.Exit) bool {
	n, ok := k.slots(x.Pc)
	return ok && len(x.Slots) == n && !slices.ContainsFunc(x.Slots, func(l api.Loc) bool { return !k.locMayBe(l) })
}

func (k *checker) locMayBe(l api.Loc) bool {
	if l.Reg == -1 {
		return isValue(l.Kind, l.N)
	}
	return k.isReg(l.Reg) && l.Kind == api.Nil && l.N == 0
}

// isValue: is it a value that is no object?
func isValue(kind api.Kind, n int64) bool {
	switch kind {
	case api.Nil:
		return n == 0
	case api.Bool:
		return n == 0 || n == 1
	}
	return kind == api.Int
}

func (k *checker) entriesMayBe() bool {
	entered := make([]bool, len(k.depths))
	holds := make([]int, k.code.Regs) // of each register, the last entry that it holds a slot of, from 1 on
	for i, e := range k.code.Entries {
		n, ok := k.slots(e.Pc)
		if !ok || entered[e.Pc] || !within(e.At, len(k.code.Code)) || len(e.Slots) != n {
			return false
		}
		entered[e.Pc] = true
		for _, r := range e.Slots {
			if !k.isReg(r) || holds[r] == i+1 {
				return false
			}
			holds[r] = i + 1
		}
	}
	return true
}

// insMayBe: is an instruction one of the rows?
func (k *checker) insMayBe(at int) bool {
	i := &k.code.Code[at]
	if int(i.Op) >= len(k.rows) || k.rows[i.Op].args == nil {
		return false
	}
	r := &k.rows[i.Op]
	to, exit := i.To == -1, i.Exit == -1
	if r.to {
		to = k.isReg(i.To)
	}
	if r.exit {
		exit = within(i.Exit, len(k.code.Exits))
	}
	return to && exit && k.areRegs(i.Args) && r.number(k, at) && r.args(k, i)
}

func (k *checker) areRegs(l []int) bool {
	return !slices.ContainsFunc(l, func(r int) bool { return !k.isReg(r) })
}
