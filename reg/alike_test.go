package reg_test

import (
	"testing"

	"gearbox/api"
	"gearbox/gen"
	"gearbox/model"
	"gearbox/reg"
	"gearbox/samples"
	"gearbox/trials"
	"gearbox/world"
)

// rooms: any, and the least one with which the run does not end for want of it, and one less.
func rooms(d *samples.Dice, p api.Program, codes map[int]api.RegFn, fuel int) []int {
	return trials.Rooms(d.Below, func(room int) api.EndKind {
		o, _ := reg.Run(p, codes, room, fuel)
		return o.End
	})
}

// P14.2: code of every form, against what the chapter tells.
func TestAnyAlike(t *testing.T) {
	t.Parallel()
	m := world.Met{}
	for seed := range 4000 {
		p, d := samples.Code(seed), samples.Dice(seed)
		codes := codesOf(t, &d, p, samples.Regs, func(int) bool { return d.Below(5) > 0 })
		fuel := d.Below(30)
		for _, room := range rooms(&d, p, codes, fuel) {
			alike(t, p, codes, room, fuel, m)
		}
	}
	for _, s := range trials.RegWords()[1:] {
		enough(t, m, 100, s)
		switch s {
		case "RValue", "RMove", "RUp", "RJump", "RLoop", "RReturn", "RConst", "RUpStore", "RShow", "RPrint":
		default:
			enough(t, m, 20, "falls at "+s)
		}
	}
	enough(t, m, 200, "end 1", "end 2", "end 3", "end 4", "caught here", "caught ahead", "waiting falls", "begins in registers")
	enough(t, m, 10, "no room RConst", "no room RCell", "no room RShow", "no room RList", "no room RMap", "no room RPut", "no room RFn", "kept ahead", "kept what was taken")
}

// modelled: a run is what model says of the program alone.
func modelled(t *testing.T, p api.Program, codes map[int]api.RegFn, room, fuel int) api.Outcome {
	t.Helper()
	o, e := reg.Run(p, codes, room, fuel)
	w, we := model.Run(p, room, fuel)
	if e != api.OK || we != api.OK || !same(o, w) {
		t.Fatalf("%s%s, room %d, fuel %d:\n%v, %d, want\n%v, %d", brief(p), brief(codes), room, fuel, o, e, w, we)
	}
	return o
}

// P14.3: code that does each thing in its turn, of all functions and of some, comes to what model says; so does code with detours. It is as the chapter tells, too.
func TestTurnsAlike(t *testing.T) {
	t.Parallel()
	m := world.Met{}
	ends := map[api.EndKind]int{}
	for seed := range 1500 {
		p, d := samples.Code(seed), samples.Dice(seed)
		if seed%3 == 0 {
			var e api.Errno
			if p, _, e = gen.Of(samples.Text(seed)); e != api.OK {
				continue
			}
		}
		fuel := d.Below(30)
		if seed%20 == 0 {
			fuel = 400
		}
		whole := codesOf(t, &d, p, turns, all)
		some := codesOf(t, &d, p, turns, func(int) bool { return d.Below(2) == 0 })
		detours := codesOf(t, &d, p, samples.Detours, func(int) bool { return d.Below(4) > 0 })
		for _, room := range rooms(&d, p, nil, fuel) {
			modelled(t, p, whole, room, fuel)
			modelled(t, p, some, room, fuel)
			ends[modelled(t, p, detours, room, fuel).End]++
		}
		alike(t, p, detours, plenty, fuel, m)
	}
	for end := api.EndDone; end <= api.EndRoom; end++ {
		if ends[end] < 200 {
			t.Error(end, ends[end])
		}
	}
	for _, s := range trials.RegWords()[1:] {
		enough(t, m, 8, s)
	}
	enough(t, m, 50, "waiting falls", "falls at RCall", "falls at RGuard", "falls at RIntBin", "falls at RThrow")
}

// P14.3: what every machine is tried with, by code that does each thing in its turn.
func TestTrials(t *testing.T) {
	t.Parallel()
	for _, trial := range trials.All() {
		d := samples.Dice(1)
		for _, makes := range []making{turns, samples.Detours} {
			codes := codesOf(t, &d, trial.Program, makes, all)
			o, e := reg.Run(trial.Program, codes, trial.Room, trial.Fuel)
			if e != api.OK || !trial.Meets(o) {
				t.Errorf("%s: %s, room %d, fuel %d: %s, %d, want %s", trial.Name, brief(trial.Program), trial.Room, trial.Fuel, brief(o), e, brief(trial.Want))
			}
		}
	}
}
