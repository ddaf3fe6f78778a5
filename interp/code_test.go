package interp_test

import (
	"fmt"
	"reflect"
	"slices"
	"testing"

	"gearbox/api"
	"gearbox/gen"
	"gearbox/interp"
	"gearbox/listing"
	"gearbox/model"
	"gearbox/samples"
	"gearbox/trials"
)

// of: the code of a text.
func of(t *testing.T, s string) api.Program {
	t.Helper()
	p, line, e := gen.Of(s)
	if e != api.OK {
		t.Fatalf("%s: %d in line %d", s, e, line)
	}
	return p
}

// brief: a program, or an outcome, and not too much of it.
func brief(x any) string {
	if p, ok := x.(api.Program); ok {
		text, _ := listing.Text(p)
		return fmt.Sprintf("%.1500s", text)
	}
	return fmt.Sprintf("%.500s", fmt.Sprintf("%+v", x))
}

func same(a, b api.Outcome) bool { return trials.Alike(a, b) }

// run: of a program that may be.
func run(t *testing.T, p api.Program, room, fuel int, acts []api.ActKind) api.Outcome {
	t.Helper()
	o, e := interp.Run(p, room, fuel, acts)
	if e != api.OK {
		t.Fatalf("%s: %d", brief(p), e)
	}
	return o
}

// every: a collection at each of so many points.
func every(n int) []api.ActKind { return slices.Repeat([]api.ActKind{api.ActCollect}, n) }

// some: at some of them; what is told at the others is nothing, or nothing that this machine does.
func some(d *samples.Dice, n int) []api.ActKind {
	var l []api.ActKind
	for range n {
		l = append(l, []api.ActKind{api.ActCollect, api.ActCollect, api.ActNone, api.ActBase, api.ActFast, api.ActPlain, api.ActPlain + 1, 255}[d.Below(8)])
	}
	return l
}

// allActs: of every form, for a run with so many points.
func allActs(d *samples.Dice, points int) [][]api.ActKind {
	return [][]api.ActKind{
		nil,
		{},
		every(points),
		every(points + 50),
		some(d, points),
		some(d, d.Below(points+1)),
		slices.Repeat([]api.ActKind{255}, points+1),
		append(make([]api.ActKind, d.Below(points+1)), api.ActCollect),
	}
}

// alike: a run is what model's is, errors too, whatever acts there are.
func alike(t *testing.T, p api.Program, room, fuel int, acts ...[]api.ActKind) api.Outcome {
	t.Helper()
	w, we := model.Run(p, room, fuel)
	for _, a := range acts {
		o, e := interp.Run(p, room, fuel, a)
		if e != we || !same(o, w) || e != api.OK && !reflect.DeepEqual(o, api.Outcome{}) {
			t.Fatalf("%s, room %d, fuel %d, acts %.300v:\n%s, %d, want\n%s, %d", brief(p), room, fuel, a, brief(o), e, brief(w), we)
		}
	}
	return w
}
