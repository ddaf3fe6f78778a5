package build_test

import (
	"slices"
	"strings"
	"testing"

	"gearbox/api"
	"gearbox/build"
	"gearbox/graph"
	"gearbox/trials"
)

// text is code in which places are told by names.
type text struct {
	code  []api.Ins
	at    map[string]int
	leads map[int]string
}

func newText() *text { return &text{at: map[string]int{}, leads: map[int]string{}} }

// put: instructions as words.
func (x *text) put(words string) { x.code = append(x.code, trials.Fn(words).Code...) }

// lead: an instruction that leads to a name.
func (x *text) lead(op api.Op, name string) {
	x.leads[len(x.code)] = name
	x.code = append(x.code, api.Ins{Op: op})
}

func (x *text) here(name string) { x.at[name] = len(x.code) }

// program: one function.
func (x *text) program(parts ...trials.Part) api.Program {
	for at, name := range x.leads {
		x.code[at].A = x.at[name]
	}
	f := api.Fn{Code: x.code, Lines: make([]int, len(x.code))}
	for _, p := range parts {
		p(&f)
	}
	return api.Program{f}
}

// forks: a function in which ways part and meet so often.
func forks(many int, more string) api.Program {
	return api.Program{trials.Fn(strings.Repeat("Yes Unless Nil Pop ", many)+more+"Nil Return", func(f *api.Fn) {
		for k := range many {
			f.Code[4*k+1].A = 4*k + 4
		}
	})}
}

// P17.1: as many blocks as there may be, and one more.
func TestMostBlocks(t *testing.T) {
	t.Parallel()
	const half = api.MaxParts / 2
	g := graphOf(t, forks(half-1, ""), 0, 0, nil)
	if len(g.Blocks) != api.MaxParts-1 {
		t.Error(len(g.Blocks))
	}
	// both ways of one lead to two branches
	p := forks(half-2, "Yes Unless 0 Nil Pop Jump 0 Nil Pop ")
	at := 4 * (half - 2)
	p[0].Code[at+1].A, p[0].Code[at+4].A = at+5, at+7
	g = graphOf(t, p, 0, 0, nil)
	if len(g.Blocks) != api.MaxParts {
		t.Error(len(g.Blocks))
	}
	wantError(t, forks(half, ""), 0, 0, nil, api.ErrLimit)
	wantError(t, forks(api.MaxCode/4-1, ""), 0, 0, nil, api.ErrLimit)
	// from a place near the end on it is not so many
	p = forks(half, "Yes Unless 0 Nil Pop Loop 0 ")
	at = 4 * half
	p[0].Code[at+1].A, p[0].Code[at+4].A = at+5, at
	wantError(t, p, 0, 0, nil, api.ErrLimit)
	if g = graphOf(t, p, 0, at, nil); len(g.Blocks) != 4 {
		t.Error(brief(g))
	}
	wantError(t, p, 0, at+1, nil, api.ErrArg)
	wantError(t, p, 1, 0, nil, api.ErrArg)
}

// ladder: two ways on which all locals and deep values on the stack are others, that meet so often; each time all of it is told. Nodes that nothing needs come first.
func ladder(deep, rungs, more int) api.Program {
	x := newText()
	x.put(strings.Repeat("Nil Pop ", more) + "Yes")
	x.lead(api.OpUnless, "other")
	for _, side := range []string{"one", "other"} {
		x.here(side)
		for k := range api.MaxLocals {
			x.code = append(x.code, api.Ins{Op: api.OpNil}, api.Ins{Op: api.OpStore, A: k})
		}
		x.put(strings.Repeat("Nil ", deep))
		for k := range rungs {
			x.put("Yes")
			x.lead(api.OpUnless, string(rune(k)))
		}
		x.put("Return")
	}
	for k := range rungs {
		x.here(string(rune(k)))
		x.put("Show Return")
	}
	return x.program(trials.Locals(api.MaxLocals))
}

// P17.1: as many nodes as there may be, and one more.
func TestMostNodes(t *testing.T) {
	t.Parallel()
	const deep, rungs, most = api.MaxStack - 1, 800, 64 * api.MaxParts
	nodes := func(rungs int) int {
		return api.MaxLocals + 1 + 2*(api.MaxLocals+deep) + rungs*(2+api.MaxLocals+deep+1)
	}
	g := graphOf(t, ladder(deep, rungs, 0), 0, 0, nil)
	if len(g.Nodes) != nodes(rungs) || len(g.Blocks) > api.MaxParts {
		t.Error(len(g.Nodes), len(g.Blocks))
	}
	more := most - nodes(rungs)
	if more < 0 || more > api.MaxCode/3 {
		t.Fatal(more)
	}
	g = graphOf(t, ladder(deep, rungs, more), 0, 0, nil)
	if len(g.Nodes) != most {
		t.Error(len(g.Nodes))
	}
	wantError(t, ladder(deep, rungs, more+1), 0, 0, nil, api.ErrLimit)
	wantError(t, ladder(deep, 1000, 0), 0, 0, nil, api.ErrLimit)
}

// P17.1: a program whose lists and texts have at most 1000 items and bytes together is never too great.
func TestSmall(t *testing.T) {
	t.Parallel()
	const most = 500 // each instruction has its line
	for deep := 1; deep < 50; deep++ {
		rungs := (most - len(ladder(deep, 0, 0)[0].Code)) / 6
		if p := ladder(deep, rungs, 0); rungs < 20 || len(p[0].Code) > most {
			t.Error(deep, rungs)
		} else {
			graphOf(t, p, 0, 0, nil)
		}
	}
	unless := strings.Repeat("Yes Unless ", most/2-1)
	p := api.Program{trials.Fn(unless+"Nil Return", trials.Locals(api.MaxLocals))}
	for _, to := range []func(at int) int{func(at int) int { return at + 1 }, func(at int) int { return min(at+3, most-2) }, func(at int) int { return most - 2 }} {
		for at := 1; at < most-2; at += 2 {
			p[0].Code[at].A = to(at)
		}
		if g := graphOf(t, p, 0, 0, nil); len(g.Blocks) < most/2 {
			t.Error(len(g.Blocks))
		}
	}
	// as many loops as there may be, over as many locals
	x := newText()
	for k := range api.MaxLocals {
		x.code = append(x.code, api.Ins{Op: api.OpCell, A: k})
	}
	for k := range (most - api.MaxLocals - 2) / 3 {
		x.here(string(rune(k)))
		x.put("Yes")
		x.lead(api.OpUnless, string(rune(k+1)))
		x.lead(api.OpLoop, string(rune(k)))
		x.here(string(rune(k + 1)))
	}
	x.put("Nil Return")
	graphOf(t, x.program(trials.Locals(api.MaxLocals)), 0, 0, nil)
}

// greatest: a function as long as may be, whose stack is as deep as may be nearly everywhere.
func greatest() api.Fn {
	nils := strings.Repeat("Nil ", api.MaxStack)
	return trials.Fn(nils+strings.Repeat("Show ", api.MaxCode-api.MaxStack-1)+"Return", trials.Locals(api.MaxLocals))
}

// R1: code as great as may be, in time that is not.
func TestGreatest(t *testing.T) {
	t.Parallel()
	p := api.Program{greatest()}
	g := graphOf(t, p, 0, 0, places(p[0]))
	if len(g.Nodes) != api.MaxLocals+api.MaxCode-1 || len(g.States) != api.MaxCode-api.MaxStack-1 || len(g.States[9].Slots) != api.MaxLocals+api.MaxStack || len(g.Blocks) != 1 {
		t.Error(len(g.Nodes), len(g.States), len(g.Blocks))
	}
	modelled(t, p, []api.Graph{g}, api.MaxWords, 0)
}

// R1: a program as great as may be; ints without end.
func TestGreatProgram(t *testing.T) {
	t.Parallel()
	p := slices.Repeat(api.Program{greatest()}, api.MaxFns)
	p[0] = trials.Fn(strings.Repeat("Fn 255 Pop ", api.MaxCode/2-1) + "Nil Return")
	ints := slices.Repeat(places(p[1]), 100)
	for _, fn := range []int{0, 255} {
		g, e := build.Graph(p, fn, 0, ints)
		if want := []int{api.MaxCode / 2, api.MaxLocals + api.MaxCode - 1}[fn/255]; e != api.OK || len(g.Nodes) != want {
			t.Error(fn, e, len(g.Nodes))
		}
	}
}

// P17.1, R1: loops to and fro: each is come to by a jump past all others, and goes back to a place that jumps behind it.
func TestToAndFro(t *testing.T) {
	t.Parallel()
	const half = 2000
	f := trials.Fn(strings.Repeat("Jump ", half)+strings.Repeat("Loop ", half), trials.Locals(api.MaxLocals))
	for i := range half {
		f.Code[i].A, f.Code[half+i].A = half+i, min(i+1, half-1)
	}
	p := api.Program{f}
	// the first jump alone is come to from ahead, and its loop goes where loops alone lead
	g := graphOf(t, p, 0, 0, nil)
	if len(g.Blocks) != 1 || g.Blocks[0].End != api.BkThrow {
		t.Error(brief(g))
	}
	l := entries(t, p, 0)
	if len(l) != half {
		t.Fatal(len(l))
	}
	for _, pc := range l {
		if _, e := build.Graph(p, 0, pc, nil); e != api.OK {
			t.Fatal(pc, e)
		}
	}
	modelled(t, p, []api.Graph{g}, 1, 5000)
}

// P17.1, R1: as many loops within one another as there may be blocks for, over as many locals as there may be.
func TestManyLoops(t *testing.T) {
	t.Parallel()
	const many = api.MaxParts/2 - 2
	x := newText()
	for k := range api.MaxLocals {
		x.code = append(x.code, api.Ins{Op: api.OpCell, A: k})
	}
	for k := range many {
		x.here(string(rune(k)))
		x.put("No")
		x.lead(api.OpUnless, "behind "+string(rune(k)))
	}
	for k := many - 1; k >= 0; k-- {
		x.lead(api.OpLoop, string(rune(k)))
		x.here("behind " + string(rune(k)))
	}
	x.put("Nil Return")
	p := x.program(trials.Locals(api.MaxLocals))
	g := graphOf(t, p, 0, 0, nil)
	if len(g.Blocks) != 2*many+2 || len(g.Nodes) < many*api.MaxLocals {
		t.Error(len(g.Blocks), len(g.Nodes))
	}
	modelled(t, p, []api.Graph{g}, 200, 10)
}

// P17.2, R1: runs end, and soon, with all the fuel that may be.
func TestMostFuel(t *testing.T) {
	t.Parallel()
	p := of(t, "var f = fn(n) { return n; }; while yes { f(1); }")
	o, e := graph.Run(p, graphsOf(t, p, noInts, all), api.MaxWords, api.MaxFuel)
	if e != api.OK || o.End != api.EndFuel || o.Fuel != 0 {
		t.Error(brief(o), e)
	}
}
