package base_test

import (
	"testing"

	"gearbox/api"
	"gearbox/gen"
	"gearbox/model"
	"gearbox/reg"
	"gearbox/samples"
	"gearbox/trials"
)

// modelled: a run with code of registers is what model says of the program alone.
func modelled(t *testing.T, p api.Program, codes map[int]api.RegFn, room, fuel int) api.Outcome {
	t.Helper()
	o, e := reg.Run(p, codes, room, fuel)
	w, we := model.Run(p, room, fuel)
	if e != api.OK || we != api.OK || !trials.Alike(o, w) {
		t.Fatalf("%s, code of %d functions, room %d, fuel %d:\n%s, %d, want\n%s, %d", brief(p), len(codes), room, fuel, brief(o), e, brief(w), we)
	}
	return o
}

// rooms: any, and the least one with which the run does not end for want of it, and one less.
func rooms(d *samples.Dice, p api.Program, fuel int) []int {
	return trials.Rooms(d.Below, func(room int) api.EndKind {
		o, _ := model.Run(p, room, fuel)
		return o.End
	})
}

// sample: a program, as code or, now and then, as text.
func sample(seed int) (api.Program, bool) {
	if seed%3 > 0 {
		return samples.Code(seed), true
	}
	p, _, e := gen.Of(samples.Text(seed))
	return p, e == api.OK
}

// P15.2: code of all functions of a program, of some, of one comes to what model says, in any room and with any fuel.
func TestRuns(t *testing.T) {
	t.Parallel()
	ends := map[api.EndKind]int{}
	for seed := range 1500 {
		p, ok := sample(seed)
		if !ok {
			continue
		}
		d := samples.Dice(seed)
		fuel := d.Below(30)
		if seed%20 == 0 {
			fuel = 400
		}
		one := d.Below(len(p))
		picks := []map[int]api.RegFn{
			codesOf(t, p, all),
			codesOf(t, p, func(int) bool { return d.Below(2) == 0 }),
			codesOf(t, p, func(fn int) bool { return fn == one }),
		}
		for _, room := range rooms(&d, p, fuel) {
			for _, codes := range picks {
				ends[modelled(t, p, codes, room, fuel).End]++
			}
		}
	}
	for end := api.EndDone; end <= api.EndRoom; end++ {
		if ends[end] < 500 {
			t.Error(end, ends[end])
		}
	}
}

// P15.2: it may be the function's code.
func TestMayBe(t *testing.T) {
	t.Parallel()
	for seed := range 4000 {
		p, ok := sample(seed)
		if !ok {
			continue
		}
		for fn, c := range codesOf(t, p, all) {
			if e := reg.Check(p, fn, c); e != api.OK {
				t.Fatalf("%s%d: %d: %s", brief(p), fn, e, brief(c))
			}
		}
	}
}

// P15.2: what every machine is tried with, written by hand.
func TestTrials(t *testing.T) {
	t.Parallel()
	for _, trial := range trials.All() {
		codes := codesOf(t, trial.Program, all)
		o, e := reg.Run(trial.Program, codes, trial.Room, trial.Fuel)
		if e != api.OK || !trial.Meets(o) {
			t.Errorf("%s: %s, room %d, fuel %d: %s, %d, want %s", trial.Name, brief(trial.Program), trial.Room, trial.Fuel, brief(o), e, brief(trial.Want))
		}
	}
}
