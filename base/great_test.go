package base_test

import (
	"slices"
	"strings"
	"testing"

	"gearbox/api"
	"gearbox/reg"
	"gearbox/trials"
)

// greatest: a function as long as may be, whose stack is as deep as may be nearly everywhere.
func greatest() api.Fn {
	nils := strings.Repeat("Nil ", api.MaxStack)
	return trials.Fn(nils+strings.Repeat("Show ", api.MaxCode-api.MaxStack-1)+"Return", trials.Locals(api.MaxLocals))
}

// R1: code as great as may be, in time that is not.
func TestGreatest(t *testing.T) {
	p := api.Program{greatest()}
	c := code(t, p, 0)
	if len(c.Code) != api.MaxCode || len(c.Exits) != api.MaxCode-api.MaxStack-1 || c.Regs != api.MaxLocals+api.MaxStack || len(c.Exits[9].Slots) != c.Regs {
		t.Error(len(c.Code), len(c.Exits), c.Regs)
	}
	if e := reg.Check(p, 0, c); e != api.OK {
		t.Error(e)
	}
}

// R1: a program as great as may be.
func TestGreatProgram(t *testing.T) {
	p := slices.Repeat(api.Program{greatest()}, api.MaxFns)
	p[0] = trials.Fn(strings.Repeat("Fn 255 Pop ", api.MaxCode/2-1) + "Nil Return")
	for _, fn := range []int{0, 255} {
		c := code(t, p, fn)
		if want := []int{1, api.MaxLocals + api.MaxStack}[fn/255]; c.Regs != want {
			t.Error(fn, c.Regs)
		}
	}
}

// R1: loops to and fro, and as many entries as there may be.
func TestToAndFro(t *testing.T) {
	const half = api.MaxCode / 2
	f := api.Fn{Code: make([]api.Ins, api.MaxCode), Lines: make([]int, api.MaxCode), Locals: api.MaxLocals}
	for i := range half {
		f.Code[i] = api.Ins{Op: api.OpJump, A: half + i}
		f.Code[half+i] = api.Ins{Op: api.OpLoop, A: min(i+1, half-1)}
	}
	c := code(t, api.Program{f}, 0)
	if len(c.Code) != api.MaxCode || len(c.Entries) != half || len(c.Exits) != half || c.Regs != api.MaxLocals {
		t.Error(len(c.Code), len(c.Entries), len(c.Exits), c.Regs)
	}
	for n, e := range c.Entries {
		if e.Pc != n || e.At != n || len(e.Slots) != api.MaxLocals || c.Code[n].N != int64(half+n) || c.Code[half+n].N != int64(min(n+1, half-1)) {
			t.Fatal(n, e, c.Code[n])
		}
	}
}

// P15.2, R1: runs by such code end, and soon, with all the fuel that may be.
func TestMostFuel(t *testing.T) {
	p := of(t, "var f = fn(n) { return n; }; while yes { f(1); }")
	o, e := reg.Run(p, codesOf(t, p, all), api.MaxWords, api.MaxFuel)
	if e != api.OK || o.End != api.EndFuel || o.Fuel != 0 {
		t.Error(brief(o), e)
	}
}
