package build_test

import (
	"slices"
	"strings"
	"testing"

	"gearbox/api"
	"gearbox/build"
	"gearbox/graph"
	"gearbox/model"
	"gearbox/samples"
	"gearbox/trials"
	"gearbox/world"
)

// modelled: a run with graphs is what model says of the program alone.
func modelled(t *testing.T, p api.Program, l []api.Graph, room, fuel int) api.Outcome {
	t.Helper()
	o, e := graph.Run(p, l, room, fuel)
	w, we := model.Run(p, room, fuel)
	if e != api.OK || we != api.OK || !trials.Alike(o, w) {
		t.Fatalf("%s%s, room %d, fuel %d:\n%s, %d, want\n%s, %d", brief(p), brief(l), room, fuel, brief(o), e, brief(w), we)
	}
	return o
}

// graphsOf: of the functions of a program that are picked, from their beginnings.
func graphsOf(t *testing.T, p api.Program, ints func(f api.Fn) []int, picked func(fn int) bool) []api.Graph {
	t.Helper()
	var l []api.Graph
	for fn := range p {
		if picked(fn) {
			l = append(l, graphOf(t, p, fn, 0, ints(p[fn])))
		}
	}
	return l
}

func all(int) bool { return true }

func noInts(api.Fn) []int { return nil }

// P17.2: graphs of all functions of a program, of some, of one come to what model says, in any room and with any fuel, whatever ints are.
func TestRuns(t *testing.T) {
	t.Parallel()
	ends := map[api.EndKind]int{}
	for seed := range 2400 {
		p, ok := sample(seed)
		if !ok {
			continue
		}
		d := samples.Dice(seed)
		fuel := d.Below(30)
		if seed%20 == 0 {
			fuel = 400
		}
		one := d.Below(len(p))
		lists := [][]api.Graph{
			graphsOf(t, p, places, all),
			graphsOf(t, p, func(f api.Fn) []int { return picks(&d, f) }, func(int) bool { return d.Below(2) == 0 }),
			graphsOf(t, p, noInts, func(fn int) bool { return fn == one }),
		}
		rooms := trials.Rooms(d.Below, func(room int) api.EndKind {
			o, _ := model.Run(p, room, fuel)
			return o.End
		})
		for _, room := range rooms {
			for _, l := range lists {
				ends[modelled(t, p, l, room, fuel).End]++
			}
		}
	}
	for end := api.EndDone; end <= api.EndRoom; end++ {
		if ends[end] < 500 {
			t.Error(end, ends[end])
		}
	}
}

// P17.2: what every machine is tried with, written by hand.
func TestTrials(t *testing.T) {
	t.Parallel()
	for _, trial := range trials.All() {
		for _, ints := range []func(f api.Fn) []int{noInts, places} {
			l := graphsOf(t, trial.Program, ints, all)
			o, e := graph.Run(trial.Program, l, trial.Room, trial.Fuel)
			if e != api.OK || !trial.Meets(o) {
				t.Errorf("%s: %s, room %d, fuel %d: %s, %d, want %s", trial.Name, brief(trial.Program), trial.Room, trial.Fuel, brief(o), e, brief(trial.Want))
			}
		}
	}
}

// fallen: a graph that falls at one of its nodes that have a state, whatever that would come to.
func fallen(g api.Graph, d *samples.Dice) api.Graph {
	var l [][2]int // a block, and where in it
	for b, k := range g.Blocks {
		for at, n := range k.Nodes {
			if g.Nodes[n].State != -1 {
				l = append(l, [2]int{b, at})
			}
		}
		if k.State != -1 {
			l = append(l, [2]int{b, len(k.Nodes)})
		}
	}
	if len(l) == 0 {
		return g
	}
	b, at := l[d.Below(len(l))][0], 0
	for _, x := range l {
		if x[0] == b && d.Below(2) == 0 {
			at = x[1]
		}
	}
	k := &g.Blocks[b]
	state := k.State
	if at < len(k.Nodes) {
		state = g.Nodes[k.Nodes[at]].State
	}
	if state == -1 {
		return g
	}
	g.Nodes = append(g.Nodes, api.Node{Op: api.NoValue, State: -1}, api.Node{Op: api.NoGuard, Args: []int{len(g.Nodes)}, Kind: api.Bool, State: state})
	k.Nodes = slices.Insert(k.Nodes, at, len(g.Nodes)-2, len(g.Nodes)-1)
	return g
}

// P17.1: each state tells the frame ahead of its instruction: wherever a graph falls, it goes on as it should.
func TestFalls(t *testing.T) {
	t.Parallel()
	for seed := range 2400 {
		p, ok := sample(seed)
		if !ok {
			continue
		}
		d := samples.Dice(seed)
		for range 4 {
			l := graphsOf(t, p, func(f api.Fn) []int { return picks(&d, f) }, all)
			for n := range l {
				l[n] = fallen(l[n], &d)
				if e := graph.Check(p, l[n]); e != api.OK {
					t.Fatal(e, brief(l[n]))
				}
			}
			modelled(t, p, l, []int{1 + d.Below(200), api.MaxWords}[d.Below(2)], d.Below(30))
		}
	}
}

// P17.1: a graph from a place to which a loop leads goes on from there as the code does, in a frame that came to it, and falls as well.
func TestTurns(t *testing.T) {
	t.Parallel()
	m := world.Met{}
	for seed := range 2400 {
		p, ok := sample(seed)
		if !ok {
			continue
		}
		d := samples.Dice(seed)
		for n := range 2 {
			w := world.World{Program: p, Room: 1 + d.Below(400), Fuel: d.Below(40), Met: m}
			for fn := range p {
				for _, pc := range entries(t, p, fn) {
					g := graphOf(t, p, fn, pc, picks(&d, p[fn]))
					if n > 0 {
						g = fallen(g, &d)
					}
					w.Turns = append(w.Turns, g)
				}
			}
			want, e := model.Run(p, w.Room, w.Fuel)
			if o := w.Tells(); e != api.OK || !trials.Alike(o, want) {
				t.Fatalf("%s%s: %s, want %s", brief(p), brief(w.Turns), brief(o), brief(want))
			}
		}
	}
	if m["goes on in a graph"] < 2000 {
		t.Error(m["goes on in a graph"])
	}
}

// P17.1: a graph does what it can: it falls at what throws, and, where ints told it so, at what is no number, but nowhere else.
func TestStays(t *testing.T) {
	t.Parallel()
	for text, stays := range map[string]bool{
		`var i = 0; while i < 3 { var j = 0; while j < 2 { j = j + 1; } i = i + j; } print i;`:                                                                                                         true,
		`var f = fn(n) { if n < 1 { return 0; } return n + f(n - 1); }; print f(4);`:                                                                                                                   true,
		`print yes and no; print no or 5; print not no; print -(3); print $7; print #[1, 2]; print [1, 2][1];`:                                                                                         true,
		`var m = {1: 2}; m[3] = 4; print m; var n = 0; var up = fn() { n = n + 1; return fn() { return n; }; }; up(); print up()() == 2;`:                                                              true,
		`if yes { print 1; } if no { print 2; } else { print 3; } while no { } try { print 4; } catch e { print e; } try { if yes { print 5; } } catch e { } var f = fn(a) { return a; }; print f(6);`: true,
		`throw 1;`:                     false,
		`try { throw 1; } catch e { }`: false,
		`"a" + "b";`:                   false,
		`"a" + 1;`:                     false,
		`if 1 { }`:                     false,
	} {
		p, m := of(t, text), world.Met{}
		w := world.World{Program: p, Graphs: graphsOf(t, p, places, all), Room: 1000, Fuel: 1000, Met: m}
		o := w.Tells()
		if plain := m["Nil"]+m["Store"]+m["Throw"]+m["Jump"]+m["Bin"]+m["Unless"] == 0; plain != stays || o.End == api.EndFuel {
			t.Error(text, m, o)
		}
	}
	p, m := of(t, `"a" + "b"; print 1;`), world.Met{}
	w := world.World{Program: p, Graphs: graphsOf(t, p, noInts, all), Room: 1000, Fuel: 1000, Met: m}
	if o := w.Tells(); o.End != api.EndDone || m["Pop"] > 0 || m["NoBin"] != 1 {
		t.Error(m, o)
	}
}

// P17.1: from the place of the inner one of two loops: that one turns in the graph; the outer one can't, so that it falls there.
func TestInner(t *testing.T) {
	p := of(t, "var i = 0; while i < 3 { var j = 0; while j < 2 { j = j + 1; } i = i + 1; } print i;")
	l := entries(t, p, 0)
	if len(l) != 3 {
		t.Fatal(l)
	}
	for n, want := range []string{"goes on in a graph: 0, falls: 0", "goes on in a graph: 1, falls: 0", "goes on in a graph: 3, falls: 3"} {
		m := world.Met{}
		w := world.World{Program: p, Turns: []api.Graph{graphOf(t, p, 0, l[n], places(p[0]))}, Room: 100, Fuel: 100, Met: m}
		o := w.Tells()
		got := strings.NewReplacer("X", itoa(m["goes on in a graph"]), "Y", itoa(m["falls at BkThrow"])).Replace("goes on in a graph: X, falls: Y")
		if got != want || o.End != api.EndDone || !slices.Equal(o.Out, []string{"3"}) || o.Fuel != 91 {
			t.Error(got, o, m)
		}
	}
	if _, e := build.Graph(p, 0, l[2]+1, nil); e != api.ErrArg {
		t.Error(e)
	}
}

func itoa(n int) string { return string(rune('0' + n)) }
