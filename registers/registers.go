// Package registers is frames of registers, on whatever ground their values stand: for the layers that run code of registers. It is no layer.
package registers

import (
	"gearbox/api"
	"gearbox/machine"
)

// Code is code of registers that may be a function's.
type Code struct {
	program api.Program
	fn      *api.Fn
	regs    api.RegFn
	deeds   deeds
}

// NewCode: that of the function fn of a program.
func NewCode(p api.Program, fn int, c api.RegFn) *Code {
	return &Code{program: p, fn: &p[fn], regs: c, deeds: newDeeds()}
}

// Frame is a frame of registers: one of the machine's.
type Frame struct {
	code  *Code
	by    api.Val // the Func by which it was called; the main one's: nil
	place int
	regs  []api.Val
	waits bool      // for what the call at its place comes to
	taken []api.Val // what the instruction at its place was done with
}

// Enter: a frame that comes into its code by an entry, with as many slots; those that are not there are nil, and so are all other registers.
func (c *Code) Enter(entry api.Entry, by api.Val, slots []api.Val) *Frame {
	f := &Frame{code: c, by: by, place: entry.At, regs: make([]api.Val, c.regs.Regs)}
	for i, v := range slots {
		f.regs[entry.Slots[i]] = v
	}
	return f
}

// Step: the next instruction is done.
func (f *Frame) Step(m *machine.Machine) {
	i := &f.code.regs.Code[f.place]
	d := &f.code.deeds[i.Op]
	if d.flow != nil {
		d.flow(f, m, i)
		return
	}
	f.operate(m, d.operation, i)
}

// Roots: the registers that its exit tells.
func (f *Frame) Roots(yield func(v *api.Val) bool) {
	for _, l := range f.told() {
		if l.Reg >= 0 && !yield(&f.regs[l.Reg]) {
			return
		}
	}
	yield(&f.by)
}

// Beside: what registers hold.
func (f *Frame) Beside(yield func(v *api.Val) bool) {
	for r := range f.regs {
		if v := &f.regs[r]; v.Kind >= api.Text && !yield(v) {
			return
		}
	}
}

// Gets: a call's value goes to the To of its instruction.
func (f *Frame) Gets(v api.Val) {
	f.waits = false
	f.goesOn(&f.code.regs.Code[f.place], v)
}

// goesOn: an instruction is done that came to a value.
func (f *Frame) goesOn(i *api.RegIns, v api.Val) {
	if i.To >= 0 {
		f.regs[i.To] = v
	}
	f.place++
}

// Fallen: the frame of the first gear that its exit tells.
func (f *Frame) Fallen() *machine.Stack {
	told := f.told()
	slots := make([]api.Val, len(told))
	for i, l := range told {
		slots[i] = api.Val{Kind: l.Kind, N: l.N}
		if l.Reg >= 0 {
			slots[i] = f.regs[l.Reg]
		}
	}
	return machine.StackAt(f.code.fn, f.by, f.exit().Pc, slots)
}

// exit: that of the instruction at its place, which has one.
func (f *Frame) exit() api.Exit { return f.code.regs.Exits[f.code.regs.Code[f.place].Exit] }

// told: where its slots are. A call that it waits for has taken its values.
func (f *Frame) told() []api.Loc {
	l := f.exit().Slots
	if f.waits {
		l = l[:len(l)-len(f.code.regs.Code[f.place].Args)]
	}
	return l
}

// arg: the value of the n-th arg of an instruction.
func (f *Frame) arg(i *api.RegIns, n int) api.Val { return f.regs[i.Args[n]] }

// args: the values of those of an instruction, till it is asked for others.
func (f *Frame) args(i *api.RegIns) []api.Val {
	f.taken = f.taken[:0]
	for _, r := range i.Args {
		f.taken = append(f.taken, f.regs[r])
	}
	return f.taken
}
