package model_test

import (
	"testing"

	"gearbox/api"
	"gearbox/gen"
	"gearbox/model"
	"gearbox/samples"
	"gearbox/trials"
	"gearbox/world"
)

// alike: a run is what the chapter tells.
func alike(t *testing.T, p api.Program, room, fuel int, m world.Met) {
	t.Helper()
	o, e := model.Run(p, room, fuel)
	w := world.World{Program: p, Room: room, Fuel: fuel, Met: m}
	if want := w.Tells(); e != api.OK || !same(o, want) {
		t.Fatalf("%s, room %d, fuel %d:\n%v, %d, want\n%v", brief(p), room, fuel, o, e, want)
	}
}

// rooms: any, and the least one with which the run does not end for want of it, and one less.
func rooms(d *samples.Dice, p api.Program, fuel int) []int {
	return trials.Rooms(d.Below, func(room int) api.EndKind {
		o, _ := model.Run(p, room, fuel)
		return o.End
	})
}

// enough: was each of these met?
func enough(t *testing.T, m world.Met, least int, what ...string) {
	t.Helper()
	for _, s := range what {
		if m[s] < least {
			t.Errorf("%s: %d", s, m[s])
		}
	}
}

// P12.1: code of every form, against what the chapter tells.
func TestCodeAlike(t *testing.T) {
	t.Parallel()
	m := world.Met{}
	for seed := range 6000 {
		p, d := samples.Code(seed), samples.Dice(seed)
		fuel := d.Below(30)
		if seed%20 == 0 {
			fuel = 400
		}
		for _, room := range rooms(&d, p, fuel) {
			alike(t, p, room, fuel, m)
		}
	}
	for _, s := range words[1:] {
		enough(t, m, 500, s)
	}
	enough(t, m, 500, "end 1", "end 2", "end 3", "end 4", "caught here", "caught ahead", "kept here", "thrown kind", "thrown args", "thrown zero", "thrown bounds")
	enough(t, m, 50, "caught far ahead", "kept ahead", "kept what was taken")
}

// P12.1: code of texts, likewise.
func TestTextsAlike(t *testing.T) {
	t.Parallel()
	m := world.Met{}
	for seed := range 4000 {
		p, _, e := gen.Of(samples.Text(seed))
		if e != api.OK {
			continue
		}
		d := samples.Dice(seed)
		fuel := d.Below(30)
		for _, room := range rooms(&d, p, fuel) {
			alike(t, p, room, fuel, m)
		}
	}
	enough(t, m, 50, "end 1", "end 2", "end 3", "end 4", "Cell", "CellLoad", "Call", "Loop", "Put", "caught here")
}
