package build_test

import (
	"fmt"
	"reflect"
	"testing"

	"gearbox/api"
	"gearbox/build"
	"gearbox/gen"
	"gearbox/graph"
	"gearbox/listing"
	"gearbox/samples"
	"gearbox/trials"
	"gearbox/verify"
)

// of: the code of a text.
func of(t *testing.T, s string) api.Program {
	t.Helper()
	p, line, e := gen.Of(s)
	if e != api.OK {
		t.Fatalf("%s: %d in line %d", s, e, line)
	}
	return p
}

// brief: a program, graphs, an outcome, and not too much of it.
func brief(x any) string {
	switch x := x.(type) {
	case api.Program:
		text, _ := listing.Text(x)
		return fmt.Sprintf("%.2500s", text)
	case []api.Graph:
		s := ""
		for _, g := range x {
			s += brief(g)
		}
		return s
	case api.Graph:
		return fmt.Sprintf("%.5000s", trials.Tell(x))
	}
	return fmt.Sprintf("%.500s", fmt.Sprintf("%+v", x))
}

// graphOf: of a function that has one, from a place on; it may be.
func graphOf(t *testing.T, p api.Program, fn, pc int, ints []int) api.Graph {
	t.Helper()
	g, e := build.Graph(p, fn, pc, ints)
	if e != api.OK {
		t.Fatalf("%s%d from %d: %d", brief(p), fn, pc, e)
	}
	if e := graph.Check(p, g); e != api.OK {
		t.Fatalf("%s%s: it may not be: %d", brief(p), brief(g), e)
	}
	return g
}

func want(t *testing.T, p api.Program, fn, pc int, ints []int, w api.Graph) {
	t.Helper()
	w.Fn, w.Pc = fn, pc
	if g := graphOf(t, p, fn, pc, ints); !trials.SameGraph(g, w) {
		t.Errorf("%s%d from %d: %s, want %s", brief(p), fn, pc, brief(g), brief(w))
	}
}

// wantError: no graph.
func wantError(t *testing.T, p api.Program, fn, pc int, ints []int, w api.Errno) {
	t.Helper()
	if g, e := build.Graph(p, fn, pc, ints); e != w || !reflect.DeepEqual(g, api.Graph{}) {
		t.Errorf("%s%d from %d: %s, %d, want %d", brief(p), fn, pc, brief(g), e, w)
	}
}

func depthsOf(t *testing.T, p api.Program, fn int) []int {
	t.Helper()
	depths, e := verify.Depths(p, fn)
	if e != api.OK {
		t.Fatalf("%s: %d", brief(p), e)
	}
	return depths
}

// entries: the places from which a function may have a graph, as the chapter says it.
func entries(t *testing.T, p api.Program, fn int) []int {
	t.Helper()
	depths := depthsOf(t, p, fn)
	l := []int{0}
	for pc := 1; pc < len(depths); pc++ {
		for at, i := range p[fn].Code {
			if i == (api.Ins{Op: api.OpLoop, A: pc}) && depths[at] != -1 {
				l = append(l, pc)
				break
			}
		}
	}
	return l
}

// picks: some places of a function, some of them more than once, and numbers that are none.
func picks(d *samples.Dice, f api.Fn) []int {
	var l []int
	for range d.Below(2 * len(f.Code)) {
		l = append(l, d.Below(len(f.Code)+4)-2)
	}
	return l
}

// places: all of them.
func places(f api.Fn) []int {
	var l []int
	for pc := range f.Code {
		l = append(l, pc)
	}
	return l
}

// sample: a program of any form.
func sample(seed int) (api.Program, bool) {
	switch seed % 4 {
	case 0:
		p, _, e := gen.Of(samples.Text(seed))
		return p, e == api.OK
	case 1:
		return samples.Code(seed), true
	}
	return samples.Ways(seed), true
}
