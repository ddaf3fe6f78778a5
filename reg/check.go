package reg

import (
	"slices"

	"gearbox/api"
	"gearbox/shapes"
)

// checker holds code of registers against the function whose code it may be.
type checker struct {
	fn     *shapes.Function
	places int // how many the function's code has
	code   api.RegFn
	rows   rows
}

func newChecker(p api.Program, fn int, depths []int, c api.RegFn) *checker {
	return &checker{fn: shapes.Of(p, fn, depths), places: len(depths), code: c, rows: newRows()}
}

func (k *checker) mayBe() bool {
	c := k.code
	if c.Regs < 0 || c.Regs > api.MaxRegs || len(c.Code) == 0 || !k.entriesMayBe() {
		return false
	}
	for _, x := range c.Exits {
		if !k.exitMayBe(x) {
			return false
		}
	}
	for at := range c.Code {
		if !k.insMayBe(at) {
			return false
		}
	}
	return k.rows[c.Code[len(c.Code)-1].Op].ends
}

func (k *checker) isReg(r int) bool { return shapes.Within(r, k.code.Regs) }

func (k *checker) exitMayBe(x api.Exit) bool {
	n, ok := k.fn.Slots(x.Pc)
	return ok && len(x.Slots) == n && !slices.ContainsFunc(x.Slots, func(l api.Loc) bool { return !k.locMayBe(l) })
}

func (k *checker) locMayBe(l api.Loc) bool {
	if l.Reg == -1 {
		return shapes.IsValue(l.Kind, l.N)
	}
	return k.isReg(l.Reg) && l.Kind == api.Nil && l.N == 0
}

func (k *checker) entriesMayBe() bool {
	entered := make([]bool, k.places)
	holds := make([]int, k.code.Regs) // of each register, the last entry that it holds a slot of, from 1 on
	for i, e := range k.code.Entries {
		n, ok := k.fn.Slots(e.Pc)
		if !ok || entered[e.Pc] || !shapes.Within(e.At, len(k.code.Code)) || len(e.Slots) != n {
			return false
		}
		entered[e.Pc] = true
		for _, r := range e.Slots {
			if !k.isReg(r) || holds[r] == i+1 {
				return false
			}
			holds[r] = i + 1
		}
	}
	return true
}

// insMayBe: is an instruction one of the rows?
func (k *checker) insMayBe(at int) bool {
	i := &k.code.Code[at]
	if int(i.Op) >= len(k.rows) || k.rows[i.Op].shape == nil {
		return false
	}
	r := &k.rows[i.Op]
	to := i.To == -1
	if r.to {
		to = k.isReg(i.To)
	}
	return to && k.areRegs(i.Args) && k.exits(r, i) && k.shapeMayBe(r, at)
}

func (k *checker) areRegs(l []int) bool {
	return !slices.ContainsFunc(l, func(r int) bool { return !k.isReg(r) })
}

// exits: has an instruction an exit just where its row has one?
func (k *checker) exits(r *row, i *api.RegIns) bool {
	if r.exit {
		return shapes.Within(i.Exit, len(k.code.Exits))
	}
	return i.Exit == -1
}

// shapeMayBe: how many args, which N and Kind an instruction has whose exit may be.
func (k *checker) shapeMayBe(r *row, at int) bool {
	i := &k.code.Code[at]
	x := shapes.Part{Args: len(i.Args), N: i.N, Kind: i.Kind}
	if r.exit {
		x.Pc = k.code.Exits[i.Exit].Pc
	}
	if r.leads != nil {
		if x.N < 0 || x.N >= int64(len(k.code.Code)) || !r.leads(at, int(x.N)) {
			return false
		}
		x.N = 0 // what is left of the row names none
	}
	return r.shape(k.fn, x)
}
