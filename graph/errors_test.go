package graph_test

import (
	"math"
	"testing"

	"gearbox/api"
	"gearbox/graph"
	"gearbox/samples"
	"gearbox/trials"
)

// P16.1: a program that may not be, a function that there is not, a graph that may not be: all are ErrForm.
func TestCheckErrors(t *testing.T) {
	p, wrong := of(t, "print 1 + 2;"), api.Program{trials.Fn("Nil")}
	with := func(change func(g *api.Graph)) api.Graph {
		g := sum()
		change(&g)
		return g
	}
	fn := func(n int) api.Graph { return with(func(g *api.Graph) { g.Fn = n }) }
	for _, c := range []struct {
		p    api.Program
		g    api.Graph
		want api.Errno
	}{
		{p, sum(), api.OK},
		{p, api.Graph{}, api.ErrForm}, {p, fn(1), api.ErrForm}, {p, fn(-1), api.ErrForm}, {p, fn(math.MaxInt), api.ErrForm}, {p, fn(math.MinInt), api.ErrForm},
		{nil, sum(), api.ErrForm}, {nil, fn(1), api.ErrForm}, {nil, api.Graph{}, api.ErrForm}, {wrong, sum(), api.ErrForm}, {wrong, fn(7), api.ErrForm}, {wrong, api.Graph{}, api.ErrForm},
		{append(p[:1:1], wrong...), sum(), api.ErrForm}, {append(p[:1:1], trials.Fn("Nil Return")), sum(), api.OK},
	} {
		if e := graph.Check(c.p, c.g); e != c.want {
			t.Errorf("%s%s: %d, want %d", brief(c.p), brief(c.g), e, c.want)
		}
	}
}

// P16.2: errors in their order: of room and fuel, of the program, of a graph that may not be, of two of one function or one that is not of the beginning.
func TestRunErrors(t *testing.T) {
	right, wrong := of(t, "print 1 + 2;"), api.Program{trials.Fn("Nil")}
	bad := sum()
	bad.Slots = 1
	later := trials.Graph(1, "Slot n0; Return 0", "")
	later.Pc = 1
	other := sum()
	other.Fn = 1
	all := [][]api.Graph{nil, {sum()}, {bad}, {sum(), sum()}, {later}, {other}, {sum(), sum(), bad}, {later, bad}, {{}}}
	for _, p := range []api.Program{right, wrong, nil, {}} {
		for _, l := range all {
			for _, n := range []int{0, -1, api.MaxWords + 1, math.MinInt, math.MaxInt} {
				wantError(t, p, l, n, 0, api.ErrArg)
				wantError(t, p, l, n, -1, api.ErrArg)
			}
			for _, n := range []int{-1, api.MaxFuel + 1, math.MinInt, math.MaxInt} {
				wantError(t, p, l, 1, n, api.ErrArg)
				wantError(t, p, l, api.MaxWords, n, api.ErrArg)
			}
		}
	}
	for _, p := range []api.Program{wrong, nil, {}} {
		for _, l := range all {
			wantError(t, p, l, 1, 0, api.ErrForm)
			wantError(t, p, l, api.MaxWords, api.MaxFuel, api.ErrForm)
		}
	}
	for _, l := range [][]api.Graph{{bad}, {other}, {{}}, {sum(), sum(), bad}, {later, bad}, {bad, bad}, {bad, later}, {sum(), other, sum()}, {later, later, {}}} {
		wantError(t, right, l, 1, 0, api.ErrForm)
	}
	for _, l := range [][]api.Graph{{sum(), sum()}, {later}, {later, sum()}, {sum(), later}, {later, later}} {
		wantError(t, right, l, 1, 0, api.ErrArg)
	}
	two := of(t, "print 1 + 2; fn() { };")
	first := trials.Graph(0, "Value; Return 0", "")
	first.Fn = 1
	wantError(t, two, []api.Graph{first, sum(), first}, 1, 0, api.ErrArg)
	for _, room := range []int{1, api.MaxWords} {
		for _, fuel := range []int{0, api.MaxFuel} {
			want := api.Outcome{End: api.EndDone, Out: []string{"3"}, Fuel: fuel}
			if o := run(t, right, []api.Graph{sum()}, room, fuel); !same(o, want) {
				t.Error(o)
			}
			run(t, two, []api.Graph{first}, room, fuel)
		}
	}
}

// P16.2: a graph that may not be, in place of one that may: ErrForm just where Check says so.
func TestRunSpoilt(t *testing.T) {
	t.Parallel()
	errors := map[api.Errno]int{}
	for seed := range 3000 {
		p, d := samples.Code(seed), samples.Dice(seed)
		l := graphsOf(t, &d, p, samples.Graph, all)
		fn := d.Below(len(p))
		l[fn] = spoilt(&d, l[fn])
		e := graph.Check(p, l[fn])
		switch {
		case e != api.OK:
			errors[e]++
			wantError(t, p, l, 100, 20, e)
		case l[fn].Pc != 0 || l[fn].Fn != fn:
			errors[api.ErrArg]++
			wantError(t, p, l, 100, 20, api.ErrArg)
		default:
			errors[e]++
			alike(t, p, l, 100, 20, nil)
		}
	}
	if errors[api.OK] < 300 || errors[api.ErrForm] < 1000 {
		t.Error(errors)
	}
}
