package graph_test

import (
	"testing"

	"gearbox/api"
	"gearbox/gen"
	"gearbox/graph"
	"gearbox/samples"
	"gearbox/trials"
	"gearbox/world"
)

// rooms: any, and the least one with which the run does not end for want of it, and one less.
func rooms(d *samples.Dice, p api.Program, l []api.Graph, fuel int) []int {
	return trials.Rooms(d.Below, func(room int) api.EndKind {
		o, _ := graph.Run(p, l, room, fuel)
		return o.End
	})
}

// P16.2: graphs of every form, against what the chapter tells.
func TestAnyAlike(t *testing.T) {
	t.Parallel()
	m := world.Met{}
	for seed := range 2500 {
		p, d := samples.Code(seed), samples.Dice(seed)
		l := graphsOf(t, &d, p, samples.Graph, func(int) bool { return d.Below(5) > 0 })
		fuel := d.Below(30)
		for _, room := range rooms(&d, p, l, fuel) {
			alike(t, p, l, room, fuel, m)
		}
	}
	for _, s := range append(trials.NodeWords()[1:], trials.EndWords()[1:]...) {
		if s != "NoPhi" {
			enough(t, m, 50, s)
		}
		switch s {
		case "NoPhi", "NoSlot", "NoValue", "NoUp", "BkJump", "BkLoop", "BkReturn", "NoConst", "NoUpStore", "NoShow", "NoPrint":
		default:
			enough(t, m, 20, "falls at "+s)
		}
	}
	enough(t, m, 200, "end 1", "end 2", "end 3", "end 4", "caught here", "caught ahead", "waiting falls", "begins as a graph")
	enough(t, m, 10, "no room NoConst", "no room NoCell", "no room NoShow", "no room NoList", "no room NoMap", "no room NoPut", "no room NoFn", "kept ahead", "kept what was taken")
}

// P16.2: graphs that do each thing in its turn, of all functions and of some, come to what model says; so do graphs with bypaths. They are as the chapter tells, too.
func TestTracksAlike(t *testing.T) {
	t.Parallel()
	m := world.Met{}
	ends := map[api.EndKind]int{}
	for seed := range 1500 {
		p, d := samples.Code(seed), samples.Dice(seed)
		if seed%3 == 0 {
			var e api.Errno
			if p, _, e = gen.Of(samples.Text(seed)); e != api.OK {
				continue
			}
		}
		fuel := d.Below(30)
		if seed%20 == 0 {
			fuel = 400
		}
		whole := graphsOf(t, &d, p, track, all)
		some := graphsOf(t, &d, p, track, func(int) bool { return d.Below(2) == 0 })
		bypaths := graphsOf(t, &d, p, samples.Bypath, func(int) bool { return d.Below(4) > 0 })
		for _, room := range rooms(&d, p, nil, fuel) {
			modelled(t, p, whole, room, fuel)
			modelled(t, p, some, room, fuel)
			ends[modelled(t, p, bypaths, room, fuel).End]++
		}
		alike(t, p, bypaths, plenty, fuel, m)
	}
	for end := api.EndDone; end <= api.EndRoom; end++ {
		if ends[end] < 200 {
			t.Error(end, ends[end])
		}
	}
	for _, s := range append(trials.NodeWords()[1:], trials.EndWords()[1:]...) {
		if s != "NoPhi" {
			enough(t, m, 8, s)
		}
	}
	enough(t, m, 50, "waiting falls", "falls at NoCall", "falls at NoGuard", "falls at NoIntBin", "falls at BkThrow")
}

// P16.2: what every machine is tried with, by graphs that do each thing in its turn.
func TestTrials(t *testing.T) {
	t.Parallel()
	for _, trial := range trials.All() {
		d := samples.Dice(1)
		for _, makes := range []making{track, samples.Bypath} {
			l := graphsOf(t, &d, trial.Program, makes, all)
			o, e := graph.Run(trial.Program, l, trial.Room, trial.Fuel)
			if e != api.OK || !trial.Meets(o) {
				t.Errorf("%s: %s, room %d, fuel %d: %s, %d, want %s", trial.Name, brief(trial.Program), trial.Room, trial.Fuel, brief(o), e, brief(trial.Want))
			}
		}
	}
}
