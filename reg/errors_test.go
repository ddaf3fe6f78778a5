package reg_test

import (
	"math"
	"reflect"
	"slices"
	"testing"
	"unsafe"

	"gearbox/api"
	"gearbox/reg"
	"gearbox/samples"
	"gearbox/trials"
)

// P14.1: a program that may not be, ahead of a function that there is not, ahead of code that may not be.
func TestCheckErrors(t *testing.T) {
	p := of(t, "print 1 + 2;")
	wrong := api.Program{trials.Fn("Nil")}
	bad := sum()
	bad.Regs = 1
	without := sum()
	without.Entries = nil
	for _, c := range []struct {
		p    api.Program
		fn   int
		c    api.RegFn
		want api.Errno
	}{
		{p, 0, sum(), api.OK}, {p, 0, without, api.OK},
		{p, 1, sum(), api.ErrArg}, {p, -1, sum(), api.ErrArg}, {p, math.MaxInt, sum(), api.ErrArg}, {p, math.MinInt, sum(), api.ErrArg}, {p, 1, bad, api.ErrArg}, {p, 1, api.RegFn{}, api.ErrArg},
		{p, 0, bad, api.ErrForm}, {p, 0, api.RegFn{}, api.ErrForm},
		{nil, 0, sum(), api.ErrForm}, {nil, 1, sum(), api.ErrForm}, {wrong, 0, sum(), api.ErrForm}, {wrong, 9, sum(), api.ErrForm}, {wrong, -1, bad, api.ErrForm}, {api.Program{}, 0, api.RegFn{}, api.ErrForm},
	} {
		if e := reg.Check(c.p, c.fn, c.c); e != c.want {
			t.Errorf("%s, %d, %s: %d, want %d", brief(c.p), c.fn, brief(c.c), e, c.want)
		}
	}
}

// P14.2: errors in their order: of room and fuel, of the program, of a function that there is not, of code that may not be.
func TestRunErrors(t *testing.T) {
	right, wrong := of(t, "print 1 + 2;"), api.Program{trials.Fn("Nil")}
	bad := sum()
	bad.Regs = 1
	noFn := map[int]api.RegFn{1: sum()}
	noForm := map[int]api.RegFn{0: bad}
	both := map[int]api.RegFn{0: bad, 1: bad, -1: bad, 7: sum()}
	all := []map[int]api.RegFn{nil, {}, {0: sum()}, noFn, noForm, both}
	for _, p := range []api.Program{right, wrong, nil, {}} {
		for _, codes := range all {
			for _, n := range []int{0, -1, api.MaxWords + 1, math.MinInt, math.MaxInt} {
				wantError(t, p, codes, n, 0, api.ErrArg)
				wantError(t, p, codes, n, -1, api.ErrArg)
			}
			for _, n := range []int{-1, api.MaxFuel + 1, math.MinInt, math.MaxInt} {
				wantError(t, p, codes, 1, n, api.ErrArg)
				wantError(t, p, codes, api.MaxWords, n, api.ErrArg)
			}
		}
	}
	for _, codes := range all {
		for _, p := range []api.Program{wrong, nil, {}} {
			wantError(t, p, codes, 1, 0, api.ErrForm)
			wantError(t, p, codes, api.MaxWords, api.MaxFuel, api.ErrForm)
		}
	}
	for _, codes := range []map[int]api.RegFn{noFn, both, {0: bad, 1: sum()}, {0: bad, -1: sum()}, {-1: sum()}, {math.MaxInt: sum(), 0: sum()}, {math.MinInt: api.RegFn{}}} {
		for range 20 { // a map is gone through in any order
			wantError(t, right, codes, 1, 0, api.ErrArg)
		}
	}
	for _, codes := range []map[int]api.RegFn{noForm, {0: {}}, {0: {Regs: 1}}} {
		wantError(t, right, codes, 1, 0, api.ErrForm)
	}
	two := of(t, "fn() { }; print 1 + 2;")
	wantError(t, two, map[int]api.RegFn{1: regs(1, "Return 0", "", ""), 0: sum()}, 1, 0, api.ErrForm)
	for _, room := range []int{1, api.MaxWords} {
		for _, fuel := range []int{0, api.MaxFuel} {
			if o := run(t, right, main(sum()), room, fuel); !same(o, api.Outcome{End: api.EndDone, Out: []string{"3"}, Fuel: fuel}) {
				t.Error(o)
			}
		}
	}
}

// P14.2: code that may not be, in place of code that may: ErrForm just where Check says so.
func TestRunSpoilt(t *testing.T) {
	t.Parallel()
	errors := map[api.Errno]int{}
	for seed := range 3000 {
		p, d := samples.Code(seed), samples.Dice(seed)
		codes := codesOf(t, &d, p, samples.Regs, all)
		fn := d.Below(len(p))
		codes[fn] = spoilt(&d, codes[fn])
		e := reg.Check(p, fn, codes[fn])
		errors[e]++
		if e != api.OK {
			wantError(t, p, codes, 100, 20, e)
			continue
		}
		alike(t, p, codes, 100, 20, nil)
	}
	if errors[api.OK] < 300 || errors[api.ErrForm] < 1000 {
		t.Error(errors)
	}
}

// programCopy: a program in other memory.
func programCopy(p api.Program) api.Program {
	q := slices.Clone(p)
	for i, f := range q {
		q[i].Caps, q[i].Consts, q[i].Code, q[i].Lines, q[i].Handlers = slices.Clone(f.Caps), slices.Clone(f.Consts), slices.Clone(f.Code), slices.Clone(f.Lines), slices.Clone(f.Handlers)
	}
	return q
}

// spare: a list with room behind it, in which something stands.
func spare[T any](l []T, x T) []T {
	return append(slices.Clone(l), x, x, x)[:len(l)]
}

// R4: what is handed in is not changed, its spare room neither.
func TestHandedIn(t *testing.T) {
	for seed := range 400 {
		p, d := samples.Code(seed), samples.Dice(seed)
		codes := map[int]api.RegFn{}
		for fn, c := range codesOf(t, &d, p, samples.Detours, all) {
			c.Code, c.Exits, c.Entries = spare(c.Code, api.RegIns{Op: 77}), spare(c.Exits, api.Exit{Pc: 77}), spare(c.Entries, api.Entry{Pc: 77})
			for n := range c.Exits {
				c.Exits[n].Slots = spare(c.Exits[n].Slots, api.Loc{N: 77})
			}
			for n := range c.Code {
				c.Code[n].Args = spare(c.Code[n].Args, 77)
			}
			codes[fn] = c
		}
		q, before := programCopy(p), map[int]api.RegFn{}
		for fn, c := range codes {
			before[fn] = copyOf(whole(c))
		}
		run(t, p, codes, 1+d.Below(100), d.Below(30))
		for fn, c := range codes {
			if reg.Check(p, fn, c) != api.OK || !reflect.DeepEqual(copyOf(whole(c)), before[fn]) {
				t.Fatalf("%s: code of %d is otherwise", brief(p), fn)
			}
		}
		if len(codes) != len(p) || !reflect.DeepEqual(programCopy(p), q) {
			t.Fatal("the program is otherwise")
		}
	}
}

// whole: code with its spare room.
func whole(c api.RegFn) api.RegFn {
	c.Code, c.Exits, c.Entries = c.Code[:cap(c.Code)], c.Exits[:cap(c.Exits)], c.Entries[:cap(c.Entries)]
	return c
}

// R4, R5: two runs share no memory, and come to the same.
func TestAnswers(t *testing.T) {
	p := of(t, `print "a"; print "b"; throw "c";`)
	d := samples.Dice(1)
	codes := codesOf(t, &d, p, turns, all)
	a, b := run(t, p, codes, 100, 10), run(t, p, codes, 100, 10)
	if !same(a, b) {
		t.Error(a, b)
	}
	for _, o := range []api.Outcome{a, b} {
		o.Out = o.Out[:cap(o.Out)]
		for i := range o.Out {
			o.Out[i] = "mine"
		}
	}
	if unsafe.SliceData(a.Out) == unsafe.SliceData(b.Out) {
		t.Error("they share what was printed")
	}
	if c := run(t, p, codes, 100, 10); !slices.Equal(c.Out, []string{"a", "b"}) {
		t.Error(c)
	}
}
