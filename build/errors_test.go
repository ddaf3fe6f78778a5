package build_test

import (
	"math"
	"testing"

	"gearbox/api"
	"gearbox/build"
	"gearbox/samples"
	"gearbox/trials"
	"gearbox/verify"
)

// P17.1: errors in their order: a program that may not be; a function, a place that there is not.
func TestErrors(t *testing.T) {
	two := of(t, "fn() { }; while yes { print 1; }")
	for _, fn := range []int{-1, 2, 3, 256, 1 << 32, math.MinInt, math.MaxInt} {
		for _, pc := range []int{0, 1, -1, math.MinInt, math.MaxInt} {
			wantError(t, two, fn, pc, []int{fn, pc}, api.ErrArg)
		}
	}
	for _, pc := range []int{-1, 1, 3, 4, 5, 6, 7, 8, 9, 10, 1 << 32, 2 + 1<<32, math.MinInt, math.MaxInt} {
		wantError(t, two, 0, pc, nil, api.ErrArg)
		wantError(t, two, 1, pc, nil, api.ErrArg)
	}
	for _, c := range [][2]int{{0, 0}, {0, 2}, {1, 0}} {
		graphOf(t, two, c[0], c[1], nil)
	}
	wantError(t, two, 1, 2, nil, api.ErrArg) // a loop of another function
	for _, p := range trials.Wrong() {
		for _, fn := range []int{0, 1, -1, 9, math.MinInt, math.MaxInt} {
			for _, pc := range []int{0, 1, -1, math.MaxInt} {
				wantError(t, p, fn, pc, nil, api.ErrForm)
			}
		}
	}
}

// P17.1: from a place that a loop names which is not come to: ErrArg.
func TestNotComeTo(t *testing.T) {
	p := api.Program{trials.Fn("Cell Nil Return Loop 1 Cell Loop 4", trials.Locals(1))}
	for pc := 1; pc < 6; pc++ {
		wantError(t, p, 0, pc, nil, api.ErrArg)
	}
	// a loop that is come to names one; another one that is not names that, too
	p = api.Program{trials.Fn("Cell Cell Loop 1 Loop 1 Loop", trials.Locals(1))}
	graphOf(t, p, 0, 1, nil)
	wantError(t, p, 0, 2, nil, api.ErrArg)
}

// P17.1: programs of which something is another one: the error of verify.Check, or graphs as the chapter tells it.
func TestSpoilt(t *testing.T) {
	t.Parallel()
	right, wrong := 0, 0
	for seed := range 4000 {
		p, ok := sample(seed)
		if !ok {
			continue
		}
		d := samples.Dice(seed)
		samples.Spoil(&d, p)
		if _, _, e := verify.Check(p); e == api.OK {
			right++
		} else {
			wrong++
			for fn := range p {
				wantError(t, p, fn, d.Below(len(p[fn].Code)), nil, e)
			}
			continue
		}
		for fn := range p {
			for _, pc := range entries(t, p, fn) {
				ints := picks(&d, p[fn])
				g := graphOf(t, p, fn, pc, ints)
				if wrong := read(p, fn, pc, ints, g); wrong != "" {
					t.Fatalf("%s%d from %d, %v: %s: %s", brief(p), fn, pc, ints, wrong, brief(g))
				}
			}
		}
	}
	if right < 500 || wrong < 1000 {
		t.Error(right, wrong)
	}
}

// R5: what is answered hangs on the function's code, not on its lines and its name, nor on what other functions do.
func TestOthers(t *testing.T) {
	p := within("Fn 2 Call Pop Yes Unless 8 Nil Pop Loop 3 Up")
	w := graphOf(t, p, 1, 3, []int{4})
	p[1].Name, p[1].Lines[3] = "f", 70
	p[0].Code[0].A, p[2].Code[0].Op, p[2].Locals = 1, api.OpYes, 5
	want(t, p, 1, 3, []int{4}, w)
	if _, e := build.Graph(p, 1, 3, nil); e != api.OK {
		t.Error(e)
	}
}
