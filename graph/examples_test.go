package graph_test

import (
	"reflect"
	"slices"
	"strings"
	"testing"

	"gearbox/api"
	"gearbox/graph"
	"gearbox/trials"
)

// sum: the graph G of the chapter's examples, of the program of `print 1 + 2;`.
func sum() api.Graph {
	return trials.Graph(0, "Value Int n1; Value Int n2; IntBin 0 1 Add s0; Print 2 s1; Value Nil; Return 4", "2: 0 1; 3: 2")
}

// wantOut: a run that is done and prints these.
func wantOut(t *testing.T, p api.Program, l []api.Graph, want ...string) {
	t.Helper()
	o := alike(t, p, l, plenty, plenty, nil)
	if o.End != api.EndDone || !slices.Equal(o.Out, want) {
		t.Errorf("%s%s:\n%v, want %v", brief(p), brief(l), o, want)
	}
}

// P16.1, P16.2, P16.3: the chapter's examples.
func TestExamples(t *testing.T) {
	p, g := of(t, "print 1 + 2;"), sum()
	wantCheck(t, p, g, true)
	g.Blocks[0].Nodes = []int{2, 0, 1, 3, 4}
	wantCheck(t, p, g, false)
	g.Blocks[0].Nodes = []int{1, 0, 2, 3, 4}
	wantCheck(t, p, g, true)
	if o := run(t, p, []api.Graph{sum()}, 1000, 100); !same(o, api.Outcome{End: api.EndDone, Out: []string{"3"}, Fuel: 100}) {
		t.Error(o)
	}
	l := graph.Above(trials.Graph(0, "Value Bool; Unless 0 >1 >2 s0 | Jump >3 | Jump >3 | Return 0", ""))
	if !reflect.DeepEqual(l, [][]int{{0}, {0, 1}, {0, 2}, {0, 3}}) {
		t.Error(l)
	}
}

// P16.2: it falls where it takes too much: to the place that is told, with the slots that are told.
func TestExampleFalls(t *testing.T) {
	p, g := of(t, "print 1 + 2;"), sum()
	g.Nodes[1] = trials.Node("Value Nil")
	if o := run(t, p, []api.Graph{g}, 1000, 100); !same(o, api.Outcome{End: api.EndThrown, Value: "kind", Fuel: 100, Words: 3}) {
		t.Error(o)
	}
	g = sum()
	g.Nodes[2].Args[1] = 4 // which is nil
	g.Blocks[0].Nodes = []int{0, 1, 4, 2, 3}
	wantOut(t, p, []api.Graph{g}, "3")
	g.States[0].Slots = []int{1, 1}
	wantOut(t, p, []api.Graph{g}, "4")
}

// P16.2: the slots of a frame that falls are locals, then its stack, each a node, or nil.
func TestSlots(t *testing.T) {
	// from 3 on three values of the stack are printed, from the last one on, then the locals
	p := api.Program{trials.Fn("Nil Nil Nil Print Print Print Load Print Load 1 Print Nil Return", trials.Locals(2))}
	made := "Value Int n1; Value Bool n1; Value Int n-3; Value Int n4; Value Int n5; "
	for state, want := range map[string]string{
		"3: 0 1 2 3 4":           "5 4 -3 1 yes",
		"3: 4 3 2 1 0":           "1 yes -3 5 4",
		"3: 0 0 0 0 0":           "1 1 1 1 1",
		"3: nil 1 nil 3 nil":     "nil 4 nil nil yes",
		"3: nil nil nil nil nil": "nil nil nil nil nil",
		"4: 0 1 2 3":             "4 -3 1 yes",
		"6: 2 3":                 "-3 4",
		"8: 2 3":                 "4",
		"10: 0 1":                "",
		"0: 3 4":                 "nil nil nil 4 5",
		"1: 3 4 2":               "nil nil -3 4 5",
	} {
		for _, falls := range []string{"Throw 0 s0", "Neg 1 s0; Return 0", "Guard 0 Nil s0; Return 0", "Unless 0 >1 >2 s0 | Return 0 | Return 0", "IntBin 0 1 Sub s0; Return 0", "CellLoad 0 s0; Return 0"} {
			wantOut(t, p, []api.Graph{trials.Graph(2, made+falls, state)}, strings.Fields(want)...)
		}
	}
}

// P16.2: a frame begins with what was handed over, its other locals nil; a graph that has no NoSlot of one does without.
func TestEntered(t *testing.T) {
	p := of(t, `var f = fn(a, b) { var c = 5; }; f(1, 2); f(3, 4);`)
	f := trials.Graph(3, "Value Int n9; Slot n2; Slot n0; Slot n1; List 3 1 2 0 s0; Print 4 s0; Return 4", "0: 2 3 nil")
	f.Fn = 1
	wantOut(t, p, []api.Graph{f}, "[2, nil, 1, 9]", "[4, nil, 3, 9]")
	f = trials.Graph(3, "Slot n1; Print 0 s0; Value; Return 1", "0: nil 0 nil")
	f.Fn = 1
	wantOut(t, p, []api.Graph{f}, "2", "4")
}

// P16.2: graphs of some functions, none, in any order.
func TestSome(t *testing.T) {
	p := of(t, `var f = fn() { print "f"; }; var g = fn() { print "g"; }; f(); g(); print "m";`)
	of := func(fn int, prints string) api.Graph {
		g := trials.Graph(0, "Value Int "+prints+"; Print 0 s0; Return 0", "0:")
		g.Fn = fn
		return g
	}
	wantOut(t, p, nil, "f", "g", "m")
	wantOut(t, p, []api.Graph{}, "f", "g", "m")
	wantOut(t, p, []api.Graph{of(1, "n1")}, "1", "g", "m")
	wantOut(t, p, []api.Graph{of(2, "n2")}, "f", "2", "m")
	wantOut(t, p, []api.Graph{of(2, "n2"), of(1, "n1")}, "1", "2", "m")
	main := trials.Graph(p[0].Locals, "Value Int n7; Print 0 s0; Return 0", "0:"+strings.Repeat(" nil", p[0].Locals))
	wantOut(t, p, []api.Graph{of(1, "n1"), main, of(2, "n2")}, "7")
}
