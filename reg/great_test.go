package reg_test

import (
	"slices"
	"strings"
	"testing"

	"gearbox/api"
	"gearbox/trials"
)

// P0.2, R1: runs end, and soon, with all the fuel that may be, and all the registers.
func TestMostFuel(t *testing.T) {
	t.Parallel()
	p := of(t, `var f = fn() { }; while yes { f(); }`)
	at := slices.IndexFunc(p[0].Code, func(i api.Ins) bool { return i.Op == api.OpCall })
	main := regs(api.MaxRegs, "Fn >4000 n1 x0; Call >0 4000 x1; Loop n1 x0", "0: 4000", "0 at 0: 0")
	main.Exits = append(main.Exits, api.Exit{Pc: at, Slots: []api.Loc{loc("4000"), loc("4000")}})
	few, most := regs(60, "Return 59", "", "0 at 0:"), regs(api.MaxRegs, "Return 4095", "", "0 at 0:")
	for _, c := range []struct {
		codes map[int]api.RegFn
		fuel  int
	}{
		{map[int]api.RegFn{0: main}, api.MaxFuel}, {map[int]api.RegFn{1: few}, api.MaxFuel}, {map[int]api.RegFn{0: main, 1: few}, api.MaxFuel}, {map[int]api.RegFn{0: main, 1: most}, 1 << 17},
	} {
		o := run(t, p, c.codes, api.MaxWords, c.fuel)
		if o.End != api.EndFuel || o.Words != 2 || o.Fuel != 0 {
			t.Error(o)
		}
	}
}

// R1: as many frames of as many registers as there may be, over a room that is nearly full, in which each text that is made wants a collection.
func TestMostRegs(t *testing.T) {
	t.Parallel()
	p := of(t, `var f = fn(n) { if n == 0 { return 0; } "text"; return f(n - 1); }; f(126); print "end";`)
	at := slices.IndexFunc(p[1].Code, func(i api.Ins) bool { return i.Op == api.OpCall })
	code := "Value >1 Int; Value >3 Int n1; Bin >2 0 1 Same x0; Unless 2 n5 x0; Return 1; " + strings.Repeat("Const >4095 n1 x0; ", 3) + "Up >4 n0; IntBin >5 0 3 Sub x0; Call >6 4 5 x1; Return 6"
	f := regs(api.MaxRegs, code, "0: 0", "0 at 0: 0")
	f.Exits = append(f.Exits, api.Exit{Pc: at, Slots: []api.Loc{loc("0"), loc("4"), loc("5")}})
	for _, room := range []int{9, 10, 11, 20} {
		o := modelled(t, p, map[int]api.RegFn{1: f}, room, api.MaxFuel)
		if done := room > 9; done != (o.End == api.EndDone) {
			t.Error(room, o)
		}
	}
}

// R1: lists of args, code and exits as long as you like.
func TestLong(t *testing.T) {
	t.Parallel()
	p := api.Program{trials.Fn("Const Print Nil Return", trials.Consts("fell"))}
	args := make([]int, api.MaxItems+1)
	made := func(op api.RegOp, n int) api.RegFn {
		c := regs(2, "List >1 x0; Len >0 1 x0; Print 0 x0; Return 0", "0:", "0 at 0:")
		c.Code[0].Op, c.Code[0].Args = op, slices.Repeat(args, 3)[:n]
		return c
	}
	for _, c := range []struct {
		op   api.RegOp
		n    int
		want string
	}{
		{api.RList, api.MaxItems, "65536"}, {api.RList, api.MaxItems + 1, "fell"}, {api.RMap, 2 * api.MaxItems, "1"}, {api.RMap, 2*api.MaxItems + 2, "fell"},
	} {
		o := run(t, p, main(made(c.op, c.n)), api.MaxWords, 0)
		if o.End != api.EndDone || !slices.Equal(o.Out, []string{c.want}) {
			t.Error(c.op, c.n, brief(o))
		}
	}
	long := regs(1, "Value >0; Return 0", "", "0 at 0:")
	long.Code = append(slices.Repeat(long.Code[:1], 1<<20), long.Code[1])
	if o := run(t, p, main(long), 1, 0); o.End != api.EndDone {
		t.Error(o)
	}
	jumps := regs(1, "Return 0", "", "0 at 0:")
	for n := range 1 << 18 {
		jumps.Exits = append(jumps.Exits, api.Exit{Pc: 1, Slots: []api.Loc{{}}})
		jumps.Code = slices.Insert(jumps.Code, n, api.RegIns{Op: api.RJump, To: -1, N: int64(n) + 1, Exit: -1})
	}
	if o := run(t, p, main(jumps), 1, 0); o.End != api.EndDone {
		t.Error(o)
	}
}

// R1: the greatest programs, each of whose functions has code of registers.
func TestGreatProgram(t *testing.T) {
	t.Parallel()
	f := trials.Fn(strings.Repeat("Nil Pop ", 100) + "Nil Return")
	p := slices.Repeat(api.Program{f}, api.MaxFns)
	codes := map[int]api.RegFn{}
	for fn := range p {
		codes[fn] = regs(1, "Return 0", "0:", "0 at 0:; 2 at 0:")
	}
	if o := run(t, p, codes, 1, 0); o.End != api.EndDone {
		t.Error(o)
	}
}
