package graph_test

import (
	"fmt"
	"reflect"
	"testing"

	"gearbox/api"
	"gearbox/gen"
	"gearbox/graph"
	"gearbox/listing"
	"gearbox/model"
	"gearbox/samples"
	"gearbox/trials"
	"gearbox/verify"
	"gearbox/world"
)

// plenty of room and fuel, where they are not what is asked for.
const plenty = 10000

// of: the code of a text.
func of(t *testing.T, s string) api.Program {
	t.Helper()
	p, line, e := gen.Of(s)
	if e != api.OK {
		t.Fatalf("%s: %d in line %d", s, e, line)
	}
	return p
}

// brief: a program, graphs, or an outcome, and not too much of it.
func brief(x any) string {
	switch x := x.(type) {
	case api.Program:
		text, _ := listing.Text(x)
		return fmt.Sprintf("%.1500s", text)
	case []api.Graph:
		s := ""
		for _, g := range x {
			s += brief(g)
		}
		return s
	case api.Graph:
		return fmt.Sprintf("%.5000s", trials.Tell(x))
	}
	return fmt.Sprintf("%.500s", fmt.Sprintf("%+v", x))
}

func same(a, b api.Outcome) bool { return trials.Alike(a, b) }

// run: of what may be.
func run(t *testing.T, p api.Program, l []api.Graph, room, fuel int) api.Outcome {
	t.Helper()
	o, e := graph.Run(p, l, room, fuel)
	if e != api.OK {
		t.Fatalf("%s%s: %d", brief(p), brief(l), e)
	}
	return o
}

// wantError: no outcome.
func wantError(t *testing.T, p api.Program, l []api.Graph, room, fuel int, w api.Errno) {
	t.Helper()
	if o, e := graph.Run(p, l, room, fuel); e != w || !reflect.DeepEqual(o, api.Outcome{}) {
		t.Errorf("%s%s, room %d, fuel %d: %v, %d, want %d", brief(p), brief(l), room, fuel, o, e, w)
	}
}

// alike: a run is what the chapter tells.
func alike(t *testing.T, p api.Program, l []api.Graph, room, fuel int, m world.Met) api.Outcome {
	t.Helper()
	o, e := graph.Run(p, l, room, fuel)
	if e != api.OK {
		t.Fatalf("%s%s: %d", brief(p), brief(l), e)
	}
	w := world.World{Program: p, Graphs: l, Room: room, Fuel: fuel, Met: m}
	if want := w.Tells(); !same(o, want) {
		t.Fatalf("%s%s, room %d, fuel %d:\n%v, want\n%v", brief(p), brief(l), room, fuel, o, want)
	}
	return o
}

// modelled: a run is what model says of the program alone.
func modelled(t *testing.T, p api.Program, l []api.Graph, room, fuel int) api.Outcome {
	t.Helper()
	o, e := graph.Run(p, l, room, fuel)
	w, we := model.Run(p, room, fuel)
	if e != api.OK || we != api.OK || !same(o, w) {
		t.Fatalf("%s%s, room %d, fuel %d:\n%v, %d, want\n%v, %d", brief(p), brief(l), room, fuel, o, e, w, we)
	}
	return o
}

// making makes a graph of a function whose depths are told, from a place on.
type making func(d *samples.Dice, p api.Program, fn, pc int, depths []int) api.Graph

// graphsOf: of each function of a program that is picked, from its beginning on.
func graphsOf(t *testing.T, d *samples.Dice, p api.Program, makes making, picked func(fn int) bool) []api.Graph {
	t.Helper()
	var l []api.Graph
	for fn := range p {
		if picked(fn) {
			l = append(l, makes(d, p, fn, 0, depthsOf(t, p, fn)))
		}
	}
	return l
}

func depthsOf(t *testing.T, p api.Program, fn int) []int {
	t.Helper()
	depths, e := verify.Depths(p, fn)
	if e != api.OK {
		t.Fatalf("%s: %d", brief(p), e)
	}
	return depths
}

func all(int) bool { return true }

// track: a graph that does each thing in its turn.
func track(_ *samples.Dice, p api.Program, fn, pc int, depths []int) api.Graph {
	return samples.Track(p, fn, pc, depths)
}

// enough: was each of these met?
func enough(t *testing.T, m world.Met, least int, what ...string) {
	t.Helper()
	for _, s := range what {
		if m[s] < least {
			t.Errorf("%s: %d", s, m[s])
		}
	}
}
