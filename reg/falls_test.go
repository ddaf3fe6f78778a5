package reg_test

import (
	"slices"
	"strings"
	"testing"

	"gearbox/api"
	"gearbox/trials"
)

// sum: the code C of the chapter's examples, of the program of `print 1 + 2;`.
func sum() api.RegFn {
	return regs(2, "Value >0 Int n1; Value >1 Int n2; IntBin >0 0 1 Add x0; Print 0 x1; Value >0; Return 0", "2: 0 1; 3: 0", "0 at 0:")
}

// wantOut: a run that is done and prints these.
func wantOut(t *testing.T, p api.Program, codes map[int]api.RegFn, want ...string) {
	t.Helper()
	o := alike(t, p, codes, plenty, plenty, nil)
	if o.End != api.EndDone || !slices.Equal(o.Out, want) {
		t.Errorf("%s%s:\n%v, want %v", brief(p), brief(codes), o, want)
	}
}

// P14.2: the chapter's examples.
func TestExamples(t *testing.T) {
	p := of(t, "print 1 + 2;")
	if o := run(t, p, main(sum()), 1000, 100); !same(o, api.Outcome{End: api.EndDone, Out: []string{"3"}, Fuel: 100}) {
		t.Error(o)
	}
	c := sum()
	c.Code[1] = ins("Value >1")
	if o := run(t, p, main(c), 1000, 100); !same(o, api.Outcome{End: api.EndThrown, Value: "kind", Fuel: 100, Words: 3}) {
		t.Error(o)
	}
	c.Exits[0].Slots[1] = loc("=40")
	wantOut(t, p, main(c), "41")
	c.Exits[0].Slots = []api.Loc{loc("=-2"), loc("=-7")}
	wantOut(t, p, main(c), "-9")
}

// P14.2: a frame that falls is at the Pc of its exit, wherever that is, with the slots that are told: registers, and values of their own.
func TestSlots(t *testing.T) {
	// from 0: locals 0, 1 and then three values of the stack are printed, from the last one on
	p := api.Program{trials.Fn("Nil Nil Nil Print Print Print Load Print Load 1 Print Nil Return", trials.Locals(2))}
	code := "Value >0 Int n1; Value >1 Bool n1; Value >2 Int n-3; Value >3 Int n4; Value >4 Int n5; Throw 0 x0"
	for exit, want := range map[string]string{
		"3: 0 1 2 3 4":               "5 4 -3 1 yes",
		"3: 4 3 2 1 0":               "1 yes -3 5 4",
		"3: 0 0 0 0 0":               "1 1 1 1 1",
		"3: nil yes no =7 =-8":       "-8 7 no nil yes",
		"3: 0 nil 5 =0 1":            "yes 0 nil 1 nil",
		"4: 0 1 2 3":                 "4 -3 1 yes",
		"6: 2 3":                     "-3 4",
		"8: 2 3":                     "4",
		"10: 0 1":                    "",
		"0: 3 4":                     "nil nil nil 4 5",
		"1: 3 4 2":                   "nil nil -3 4 5",
		"3: 0 1 2 3 4; 3: 4 4 4 4 4": "5 4 -3 1 yes",
	} {
		wantOut(t, p, main(regs(6, code, exit, "0 at 0: 0 1")), strings.Fields(want)...)
	}
}

// P14.2: a frame that fell goes on as a frame of model does: it loops, calls, throws, catches; and it stays so, while others begin in registers.
func TestFallen(t *testing.T) {
	p := of(t, `var i = 0; var f = fn(n) { return n * 2; }; while i < 4 { i = i + 1; try { print f(i); throw i; } catch e { print [e]; } } print "end";`)
	want := []string{"2", "[1]", "4", "[2]", "6", "[3]", "8", "[4]", "end"}
	wantOut(t, p, nil, want...)
	falls := regs(3, "Guard 0 Int x0; Return 0", "0: nil nil nil", "0 at 0: 0 1 2")
	wantOut(t, p, main(falls), want...)
	// the function alone in registers, and it does something else there
	ten := regs(2, "Value >1 Int n10; IntBin >0 0 1 Mul x0; Return 0", "2: 0 0 1", "0 at 0: 0")
	wantOut(t, p, map[int]api.RegFn{0: falls, 1: ten}, "10", "[1]", "20", "[2]", "30", "[3]", "40", "[4]", "end")
	wantOut(t, p, map[int]api.RegFn{1: ten}, "10", "[1]", "20", "[2]", "30", "[3]", "40", "[4]", "end")
}

// P14.2: nothing was done ahead of a fall: nothing printed, nothing changed, no fuel taken.
func TestNothingAhead(t *testing.T) {
	p := of(t, `var l = [1, 2]; var c = 5; print l[0];`)
	// from 0 on all is done anew, however far the registers came; but what they printed stays printed
	c := regs(3, "Value >0 Int n8; Print 0 x0; List >1 0 0 x0; Value >2 Int n9; Put 1 2 2 x0; Return 0", "0: 0 1", "0 at 0: 0 1")
	wantOut(t, p, main(c), "8", "1")
	// a call that falls takes its fuel as OpCall, once
	p = of(t, `try { 5(); } catch e { print e; }`)
	at := slices.IndexFunc(p[0].Code, func(i api.Ins) bool { return i.Op == api.OpCall })
	c = regs(2, "Call >0 1 x0; Return 0", "", "0 at 0: 0")
	c.Exits = []api.Exit{{Pc: at, Slots: []api.Loc{loc("0"), loc("=5")}}}
	for fuel := range 4 {
		o := alike(t, p, main(c), plenty, fuel, nil)
		want := api.Outcome{End: api.EndDone, Out: []string{"kind"}, Fuel: fuel - 1}
		if fuel == 0 {
			want = api.Outcome{End: api.EndFuel}
		}
		if !same(o, want) {
			t.Errorf("fuel %d: %v", fuel, o)
		}
	}
}

// thrower: function 1 throws what it is handed, from where it stands in registers or not.
func thrower(keeps int) api.Program {
	main := trials.Fn("Const Const 1 Fn 1 Const 2 Call 1 Return "+strings.Repeat("Print ", keeps+1)+"Load Print Nil Return", trials.Locals(1), trials.Consts(10, 11, 12), trials.Handlers(4, 5, 6, keeps))
	return api.Program{main, trials.Fn("Load Throw", trials.Params(1))}
}

// P14.2: what is thrown into a frame that waits for a call: it falls at that call's exit, and has as many values fewer as the call has Args; nil stands for those that a handler keeps all the same.
func TestThrownInto(t *testing.T) {
	code := "Value >1 Int n20; Value >2 Int n21; Fn >3 n1 x1; Value >4 Int n22; Value >0 Bool n1; Call >5 3 4 x0; Value >5 Int n23; Throw 5 x1"
	thrown := regs(1, "Throw 0 x0", "1: 0 0", "0 at 0: 0")
	for keeps, want := range []string{"22 yes", "22 20 yes", "22 21 20 yes", "22 nil 21 20 yes", "22 nil nil 21 20 yes"} {
		p := thrower(keeps)
		c := regs(6, code, "4: 0 1 2 3 4; 0: nil", "0 at 0: 0")
		for _, codes := range []map[int]api.RegFn{{0: c}, {0: c, 1: thrown}} {
			wantOut(t, p, codes, strings.Fields(want)...)
		}
		// what its registers hold, and what its exit tells: the values are the exit's
		c = regs(6, code, "4: =1 =2 =3 =4 =5; 0: nil", "0 at 0: 0")
		others := strings.Fields("22 2 3 nil nil")
		got := []string{others[0]}
		for k := keeps; k > 0; k-- {
			got = append(got, others[k])
		}
		wantOut(t, p, main(c), append(got, "1")...)
	}
}

// P14.2: what is thrown goes through frames that wait in registers and catch nothing, up to one that does, or none.
func TestThrownThrough(t *testing.T) {
	last := trials.Fn("Const Throw", trials.Consts(9))
	through := trials.Fn("Fn 2 Call Return")
	catcher := trials.Fn("Fn 1 Call Return Print Nil Return", trials.Handlers(1, 2, 3, 0))
	p := api.Program{catcher, through, last}
	throws := regs(1, "Value >0 Int n8; Throw 0 x0", "1: 0", "0 at 0:")
	waits := regs(1, "Fn >0 n2 x0; Call >0 0 x1; Return 0", "0:; 1: 0", "0 at 0:")
	wantOut(t, p, nil, "9")
	wantOut(t, p, map[int]api.RegFn{1: waits}, "9")
	wantOut(t, p, map[int]api.RegFn{1: waits, 2: throws}, "8")
	main := regs(1, "Fn >0 n1 x0; Call >0 0 x1; Print 0 x0; Return 0", "0:; 1: 0", "0 at 0:")
	wantOut(t, p, map[int]api.RegFn{0: main, 1: waits, 2: throws}, "8")
	p[0].Handlers = nil
	p[0].Code = p[0].Code[:3]
	p[0].Lines = p[0].Lines[:3]
	if o := run(t, p, map[int]api.RegFn{0: main, 1: waits, 2: throws}, 100, 100); !same(o, api.Outcome{End: api.EndThrown, Value: "8", Fuel: 98}) {
		t.Error(o)
	}
}

// P14.2: frames of both kinds call each other: what is handed over, what comes back and where it goes.
func TestCalls(t *testing.T) {
	p := of(t, `var f = fn(a, b, c) { var d = [a, b, c]; print d; return d; }; print f(1, 2, 3);`)
	at := slices.IndexFunc(p[0].Code, func(i api.Ins) bool { return i.Op == api.OpCall })
	main := regs(7, "Fn >2 n1 x0; Value >3 Int n4; Value >4 Int n5; Value >5 Int n6; Call >6 2 5 3 4 x1; Print 6 x0; Print 2 x0; Return 0", "0: 0", "0 at 0: 0")
	main.Exits = append(main.Exits, api.Exit{Pc: at, Slots: []api.Loc{loc("0"), loc("2"), loc("5"), loc("3"), loc("4")}})
	f := regs(5, "List >4 0 1 2 3 x0; Print 4 x0; Return 1", "0: 0 1 2 3", "0 at 0: 2 1 0 3")
	for _, c := range []struct {
		codes map[int]api.RegFn
		want  []string
	}{
		{nil, []string{"[1, 2, 3]", "[1, 2, 3]"}},
		{map[int]api.RegFn{0: main}, []string{"[6, 4, 5]", "[6, 4, 5]", "fn 1"}},
		{map[int]api.RegFn{1: f}, []string{"[3, 2, 1, nil]", "2"}},
		{map[int]api.RegFn{0: main, 1: f}, []string{"[5, 4, 6, nil]", "4", "fn 1"}},
	} {
		wantOut(t, p, c.codes, c.want...)
	}
	// a value that comes back to a register that was told, called or handed over
	for to, want := range map[string]string{"2": "[6, 4, 5]", "5": "fn 1"} {
		other := main
		other.Code = slices.Clone(main.Code)
		other.Code[4] = ins("Call >" + to + " 2 5 3 4 x1")
		other.Code[5] = ins("Print 2 x0")
		other.Code = append(other.Code[:6], other.Code[7])
		wantOut(t, p, map[int]api.RegFn{0: other}, "[6, 4, 5]", want)
	}
}

// P14.2: all registers but those of the locals are nil when a frame begins, however often.
func TestBegins(t *testing.T) {
	p := of(t, `var f = fn(a) { }; f(1); f(2); f(3);`)
	f := regs(4, "List >3 0 1 2 3 x0; Print 3 x0; Move >0 3; Move >1 3; Move >2 3; Return 3", "0: 1", "0 at 0: 1")
	wantOut(t, p, map[int]api.RegFn{1: f}, "[nil, 1, nil, nil]", "[nil, 2, nil, nil]", "[nil, 3, nil, nil]")
	// where the entry says
	f.Entries[0].At = 1
	wantOut(t, p, map[int]api.RegFn{1: f}, "nil", "nil", "nil")
	f.Entries[0].At = 5
	wantOut(t, p, map[int]api.RegFn{1: f})
}

// P14.2: code that has no entry at the beginning is not come into, whatever others it has.
func TestNoEntry(t *testing.T) {
	p := of(t, `print 1 + 2; var i = 0; while i < 3 { i = i + 1; } print i;`)
	loop := slices.IndexFunc(p[0].Code, func(i api.Ins) bool { return i.Op == api.OpLoop })
	c := regs(1, "Value >0 Int n5; Print 0 x0; Return 0", "0: 0", "")
	wantOut(t, p, main(c), "3", "3")
	c.Entries = []api.Entry{{Pc: p[0].Code[loop].A, Slots: []int{0}}}
	wantOut(t, p, main(c), "3", "3")
	c.Entries = append(c.Entries, api.Entry{Slots: []int{0}})
	wantOut(t, p, main(c), "5")
	wantOut(t, p, map[int]api.RegFn{}, "3", "3")
}

// P14.2: as many frames as there may be, of either kind, and one more: `deep`, thrown by the OpCall to which the call falls.
func TestDeep(t *testing.T) {
	p := of(t, `var n = 0; var f = fn() { n = n + 1; f(); }; try { f(); } catch e { print e; } print n;`)
	at := slices.IndexFunc(p[1].Code, func(i api.Ins) bool { return i.Op == api.OpCall })
	up := []string{"0", "1"}
	if p[1].Code[at-1].A == 0 {
		up = []string{"1", "0"}
	}
	f := regs(3, "Up >0 n"+up[0]+"; Value >1 Int n1; IntBin >0 0 1 Add x0; UpStore 0 n"+up[0]+" x0; Up >2 n"+up[1]+"; Call >0 2 x1; Return 0", "0:", "0 at 0:")
	f.Exits = append(f.Exits, api.Exit{Pc: at, Slots: []api.Loc{loc("2")}})
	wantOut(t, p, nil, "deep", "127")
	wantOut(t, p, map[int]api.RegFn{1: f}, "deep", "127")
	if o := run(t, p, map[int]api.RegFn{1: f}, plenty, 1000); o.Fuel != 1000-128 {
		t.Error(o)
	}
}
