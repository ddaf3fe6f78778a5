package graph_test

import (
	"reflect"
	"slices"
	"testing"
	"unsafe"

	"gearbox/api"
	"gearbox/graph"
	"gearbox/samples"
)

// programCopy: a program in other memory.
func programCopy(p api.Program) api.Program {
	q := slices.Clone(p)
	for i, f := range q {
		q[i].Caps, q[i].Consts, q[i].Code, q[i].Lines, q[i].Handlers = slices.Clone(f.Caps), slices.Clone(f.Consts), slices.Clone(f.Code), slices.Clone(f.Lines), slices.Clone(f.Handlers)
	}
	return q
}

// spare: a list with room behind it, in which something stands.
func spare[T any](l []T, x T) []T { return append(slices.Clone(l), x, x, x)[:len(l)] }

// spared: a graph whose lists have room behind them.
func spared(g api.Graph) api.Graph {
	g.Nodes, g.Blocks, g.States = spare(g.Nodes, api.Node{N: 77}), spare(g.Blocks, api.Block{State: 77}), spare(g.States, api.State{Pc: 77})
	for n := range g.Nodes {
		g.Nodes[n].Args = spare(g.Nodes[n].Args, 77)
	}
	for b := range g.Blocks {
		x := &g.Blocks[b]
		x.Nodes, x.Args, x.Next, x.Ahead = spare(x.Nodes, 77), spare(x.Args, 77), spare(x.Next, 77), spare(x.Ahead, 77)
	}
	for n := range g.States {
		g.States[n].Slots = spare(g.States[n].Slots, 77)
	}
	return g
}

func whole[T any](l []T) []T { return l[:cap(l)] }

// wholeOf: a graph in other memory, with what stands in its spare room.
func wholeOf(g api.Graph) api.Graph {
	g.Nodes, g.Blocks, g.States = slices.Clone(whole(g.Nodes)), slices.Clone(whole(g.Blocks)), slices.Clone(whole(g.States))
	for n := range g.Nodes {
		g.Nodes[n].Args = whole(g.Nodes[n].Args)
	}
	for b := range g.Blocks {
		x := &g.Blocks[b]
		x.Nodes, x.Args, x.Next, x.Ahead = whole(x.Nodes), whole(x.Args), whole(x.Next), whole(x.Ahead)
	}
	for n := range g.States {
		g.States[n].Slots = whole(g.States[n].Slots)
	}
	return copyOf(g)
}

// R4: what is handed in is not changed, its spare room neither.
func TestHandedIn(t *testing.T) {
	for seed := range 400 {
		p, d := samples.Code(seed), samples.Dice(seed)
		l := graphsOf(t, &d, p, []making{samples.Graph, samples.Bypath}[seed%2], all)
		for n := range l {
			l[n] = spared(l[n])
		}
		l = spare(l, api.Graph{Fn: 77})
		q := programCopy(p)
		var before []api.Graph
		for _, g := range whole(l) {
			before = append(before, wholeOf(g))
		}
		run(t, p, l, 1+d.Below(100), d.Below(30))
		for _, g := range l {
			if graph.Check(p, g) != api.OK {
				t.Fatal(brief(g))
			}
			graph.Above(g)
		}
		for n, g := range whole(l) {
			if !reflect.DeepEqual(wholeOf(g), before[n]) {
				t.Fatalf("%s: graph %d is otherwise", brief(p), n)
			}
		}
		if !reflect.DeepEqual(programCopy(p), q) {
			t.Fatal("the program is otherwise")
		}
	}
}

// R4, R5: two runs share no memory, and come to the same.
func TestAnswers(t *testing.T) {
	p := of(t, `print "a"; print "b"; throw "c";`)
	d := samples.Dice(1)
	l := graphsOf(t, &d, p, track, all)
	a, b := run(t, p, l, 100, 10), run(t, p, l, 100, 10)
	if !same(a, b) {
		t.Error(a, b)
	}
	for _, o := range []api.Outcome{a, b} {
		o.Out = o.Out[:cap(o.Out)]
		for i := range o.Out {
			o.Out[i] = "mine"
		}
	}
	if unsafe.SliceData(a.Out) == unsafe.SliceData(b.Out) {
		t.Error("they share what was printed")
	}
	if c := run(t, p, l, 100, 10); !slices.Equal(c.Out, []string{"a", "b"}) {
		t.Error(c)
	}
}
