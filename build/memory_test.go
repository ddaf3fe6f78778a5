package build_test

import (
	"reflect"
	"slices"
	"testing"

	"gearbox/api"
	"gearbox/samples"
)

// lists: those of numbers in a graph, with their spare room.
func lists(g api.Graph) [][]int {
	var l [][]int
	for _, x := range g.Nodes {
		l = append(l, x.Args)
	}
	for _, b := range g.Blocks {
		l = append(l, b.Nodes, b.Args, b.Next, b.Ahead)
	}
	for _, s := range g.States {
		l = append(l, s.Slots)
	}
	for k := range l {
		l[k] = l[k][:cap(l[k])]
	}
	return l
}

// R4: lists of answers share no memory with each other: what is written into one is read in no other one.
func TestApart(t *testing.T) {
	t.Parallel()
	for seed := range 800 {
		p, ok := sample(seed)
		if !ok {
			continue
		}
		d := samples.Dice(seed)
		var l [][]int
		for fn := range p {
			for _, pc := range entries(t, p, fn) {
				ints := picks(&d, p[fn])
				l = append(append(l, lists(graphOf(t, p, fn, pc, ints))...), lists(graphOf(t, p, fn, pc, ints))...)
				l = append(l, ints)
			}
		}
		for n := range l {
			for k := range l[n] {
				l[n][k] = n
			}
		}
		for n := range l {
			if slices.ContainsFunc(l[n], func(k int) bool { return k != n }) {
				t.Fatal(seed, "two lists share memory")
			}
		}
	}
}

// spare: a list with room behind it, in which something stands.
func spare[T any](l []T, x T) []T { return append(slices.Clone(l), x, x, x)[:len(l)] }

// whole: a copy of a program, with what stands in the spare room of its lists.
func whole(p api.Program) api.Program {
	q := slices.Clone(p[:cap(p)])
	for i, f := range q {
		q[i].Caps, q[i].Consts, q[i].Code, q[i].Lines, q[i].Handlers = slices.Clone(f.Caps[:cap(f.Caps)]), slices.Clone(f.Consts[:cap(f.Consts)]), slices.Clone(f.Code[:cap(f.Code)]), slices.Clone(f.Lines[:cap(f.Lines)]), slices.Clone(f.Handlers[:cap(f.Handlers)])
	}
	return q
}

// spoil: what stands in a graph is something else, in its spare room too.
func spoil(g api.Graph) {
	for _, l := range lists(g) {
		for k := range l {
			l[k] = -77
		}
	}
	clear(g.Nodes[:cap(g.Nodes)])
	clear(g.Blocks[:cap(g.Blocks)])
	clear(g.States[:cap(g.States)])
}

// R4, R5: what is handed in is not changed, its spare room neither; and the same is answered again.
func TestHandedIn(t *testing.T) {
	t.Parallel()
	for seed := range 800 {
		p, ok := sample(seed)
		if !ok {
			continue
		}
		p = spare(p, api.Fn{Name: "spare"})
		for i, f := range p {
			p[i].Caps, p[i].Consts, p[i].Code, p[i].Lines, p[i].Handlers = spare(f.Caps, api.Cap{N: 77}), spare(f.Consts, api.Const{N: 77}), spare(f.Code, api.Ins{A: 77}), spare(f.Lines, 77), spare(f.Handlers, api.Handler{At: 77})
		}
		d := samples.Dice(seed)
		before := whole(p)
		for fn := range p {
			for _, pc := range entries(t, p, fn) {
				ints := spare(picks(&d, p[fn]), 77)
				told := slices.Clone(ints[:cap(ints)])
				g := graphOf(t, p, fn, pc, ints)
				again := graphOf(t, p, fn, pc, ints)
				spoil(g)
				want(t, p, fn, pc, ints, again)
				if !slices.Equal(ints[:cap(ints)], told) {
					t.Fatal("ints are others")
				}
				clear(ints)
				if wrong := read(p, fn, pc, told[:len(ints)], again); wrong != "" {
					t.Fatalf("%s%s: it hangs on another answer: %s", brief(p), brief(again), wrong)
				}
			}
		}
		if !reflect.DeepEqual(before, whole(p)) {
			t.Fatal(seed, "the program is another one")
		}
	}
}
