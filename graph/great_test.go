package graph_test

import (
	"slices"
	"strconv"
	"strings"
	"testing"

	"gearbox/api"
	"gearbox/graph"
	"gearbox/trials"
)

// adds: one block more, without nodes.
func adds(g *api.Graph, end api.EndOp, args []int, next ...int) {
	b := api.Block{End: end, Args: args, Next: next, State: -1}
	if end == api.BkUnless || end == api.BkLoop {
		b.State = 0
	}
	g.Blocks = append(g.Blocks, b)
}

// chain: so many blocks behind the first one, each of which leads to the next one, and has these nodes.
func chain(many int, nodes ...string) api.Graph {
	g := trials.Graph(0, "Value Bool; Jump >1", "0:")
	for b := range many {
		adds(&g, api.BkJump, nil, b+2)
		for _, s := range nodes {
			g.Blocks[b+1].Nodes = append(g.Blocks[b+1].Nodes, len(g.Nodes))
			g.Nodes = append(g.Nodes, trials.Node(s))
		}
	}
	adds(&g, api.BkReturn, []int{0})
	trials.Ahead(g)
	return g
}

// nothing: a program that does nothing, a text among its constants.
func nothing() api.Program { return api.Program{trials.Fn("Nil Return", trials.Consts("text"))} }

// wantDone: a graph that may be, of a run that is done.
func wantDone(t *testing.T, p api.Program, g api.Graph, room, fuel int) api.Outcome {
	t.Helper()
	if e := graph.Check(p, g); e != api.OK {
		t.Fatal(e)
	}
	o := run(t, p, []api.Graph{g}, room, fuel)
	if o.End != api.EndDone {
		t.Error(brief(o))
	}
	return o
}

// R1: blocks one above the other, or side by side, as many as you like.
func TestManyBlocks(t *testing.T) {
	t.Parallel()
	const many = 1 << 18
	wantDone(t, nothing(), chain(many), 1, 0)
	wantDone(t, nothing(), chain(many, "Value", "Const s0", "Print 0 s0"), 3, 0)
	// each of them leads to the last one
	fork := trials.Graph(0, "Value Bool; Unless 0 >262144 >1 s0", "0:")
	for b := 1; b < many-1; b++ {
		adds(&fork, api.BkUnless, []int{0}, many, b+1)
	}
	adds(&fork, api.BkJump, nil, many)
	adds(&fork, api.BkReturn, []int{1})
	fork.Nodes = append(fork.Nodes, api.Node{Op: api.NoPhi, Args: make([]int, many), State: -1})
	fork.Blocks[many].Nodes = []int{1}
	trials.Ahead(fork)
	wantDone(t, nothing(), fork, 1, 0)
	// loops within one another
	loops := trials.Graph(0, "Value Bool; Jump >1", "0:")
	for b := range many {
		adds(&loops, api.BkJump, nil, b+2)
	}
	for k := range many {
		adds(&loops, api.BkUnless, []int{0}, len(loops.Blocks)+1, len(loops.Blocks)+2)
		adds(&loops, api.BkLoop, nil, many-k)
	}
	adds(&loops, api.BkReturn, []int{0})
	trials.Ahead(loops)
	wantDone(t, nothing(), loops, 1, 0)
}

// P16.3, R1: what is above each of many blocks, and of blocks that are led to in any way.
func TestManyAbove(t *testing.T) {
	t.Parallel()
	const many = 5000
	for b, l := range graph.Above(chain(many - 2)) {
		if len(l) != b+1 || l[b] != b {
			t.Fatal(b, len(l))
		}
	}
	all := api.Graph{Blocks: make([]api.Block, many)}
	for _, l := range graph.Above(all)[1:] {
		if len(l) != many {
			t.Fatal(len(l))
		}
	}
	wide := api.Graph{Blocks: make([]api.Block, 1<<18)}
	for b := range wide.Blocks {
		wide.Blocks[0].Next = append(wide.Blocks[0].Next, b)
		wide.Blocks[b].Next = append(wide.Blocks[b].Next, 0, b-1, b+1, len(wide.Blocks)-b)
	}
	for b, l := range graph.Above(wide) {
		if len(l) != min(b+1, 2) {
			t.Fatal(b, l)
		}
	}
	// a ladder: each rung is led to from both sides, from the last one on
	ladder := api.Graph{Blocks: make([]api.Block, 1<<18)}
	for b := range ladder.Blocks {
		ladder.Blocks[b].Next = []int{b - 1, b + 1, b + 2, b - 2}
	}
	ladder.Blocks[0].Next = []int{1, len(ladder.Blocks) - 1}
	for b, l := range graph.Above(ladder) {
		if len(l) != min(b+1, 2) {
			t.Fatal(b, l)
		}
	}
}

// R1: nodes and states as many as you like, and args.
func TestManyNodes(t *testing.T) {
	t.Parallel()
	const many = 1 << 20
	g := trials.Graph(0, "Value; Return 0", "0:")
	for n := 1; n < many; n++ {
		g.Nodes, g.Blocks[0].Nodes = append(g.Nodes, api.Node{Op: api.NoGuard, Args: []int{n - 1}}), append(g.Blocks[0].Nodes, n)
	}
	g.Blocks[0].Args[0] = many - 1
	wantDone(t, nothing(), g, 1, 0)
	slots := slices.Repeat([]int{0}, api.MaxLocals+api.MaxStack)
	deep := api.Program{trials.Fn(strings.Repeat("Nil ", api.MaxStack)+"Return", trials.Locals(api.MaxLocals))}
	g.Slots = api.MaxLocals
	g.States = slices.Repeat([]api.State{{Pc: api.MaxStack, Slots: slots}}, 1<<16)
	for n := range g.Nodes[1:] {
		g.Nodes[n+1].State = n % (1 << 16)
	}
	wantDone(t, deep, g, 1, 0)
	for _, c := range []struct {
		op   api.NodeOp
		many int
		want string
	}{
		{api.NoList, api.MaxItems, "65536"}, {api.NoList, api.MaxItems + 1, "fell"}, {api.NoMap, 2 * api.MaxItems, "1"}, {api.NoMap, 2*api.MaxItems + 2, "fell"},
	} {
		p := api.Program{trials.Fn("Const Print Nil Return", trials.Consts("fell"))}
		g := trials.Graph(0, "Value; List s0; Len 1 s0; Print 2 s0; Return 0", "0:")
		g.Nodes[1].Op, g.Nodes[1].Args = c.op, make([]int, c.many)
		if o := wantDone(t, p, g, api.MaxWords, 0); !slices.Equal(o.Out, []string{c.want}) {
			t.Error(c.op, c.many, brief(o))
		}
	}
}

// R1: a loop of many phis.
func TestManyPhis(t *testing.T) {
	t.Parallel()
	const many = 1 << 16
	g := trials.Graph(0, "Value; Jump >1 | Loop >1 s0", "0:")
	for n := 1; n <= many; n++ {
		g.Nodes, g.Blocks[1].Nodes = append(g.Nodes, api.Node{Op: api.NoPhi, Args: []int{0, many + 1 - n}, State: -1}), append(g.Blocks[1].Nodes, n)
	}
	if o := run(t, nothing(), []api.Graph{g}, 1, 300); o.End != api.EndFuel {
		t.Error(brief(o))
	}
}

// P0.2, R1: runs end, and soon, with all the fuel that may be.
func TestMostFuel(t *testing.T) {
	t.Parallel()
	p := of(t, `var f = fn() { }; while yes { f(); }`)
	at := slices.IndexFunc(p[0].Code, func(i api.Ins) bool { return i.Op == api.OpCall })
	loop := trials.Graph(1, "Fn n1 s0; Jump >1 | Call 0 s1; Loop >1 s0", "0: nil; 0: 0 0")
	loop.States[1].Pc = at
	first := ofFirst(trials.Graph(0, strings.Repeat("Value; ", 20)+"Return 19", ""))
	for _, l := range [][]api.Graph{{loop}, {first}, {loop, first}} {
		if o := run(t, p, l, api.MaxWords, api.MaxFuel); o.End != api.EndFuel || o.Words > 2 || o.Fuel != 0 {
			t.Error(o)
		}
	}
}

// R1: as many frames as there may be, of many nodes that hold something, over a room that is nearly full, in which each text that is made wants a collection.
func TestMostFrames(t *testing.T) {
	t.Parallel()
	p := of(t, `var f = fn(n) { if n == 0 { return 0; } "text"; return f(n - 1); }; f(126); print "end";`)
	at := slices.IndexFunc(p[1].Code, func(i api.Ins) bool { return i.Op == api.OpCall })
	held := strings.Repeat("Const n1 s0; ", 400)
	f := ofFirst(trials.Graph(1, "Slot n0; Value Int; Value Int n1; Bin 0 1 Same s0; Unless 3 >1 >2 s0 | Return 1 |"+held+"Up n0; IntBin 0 2 Sub s0; Call 404 405 s1; Return 406", "0: 0; 0: 0 404 405"))
	f.States[1].Pc = at
	for room, end := range map[int]api.EndKind{8: api.EndRoom, 9: api.EndRoom, 10: api.EndDone, 11: api.EndDone, 20: api.EndDone} {
		o := modelled(t, p, []api.Graph{f}, room, api.MaxFuel)
		if o.End != end {
			t.Error(room, o)
		}
	}
}

// R1: the greatest programs, each of whose functions has a graph; and many graphs of one.
func TestGreatProgram(t *testing.T) {
	t.Parallel()
	p := slices.Repeat(api.Program{trials.Fn(strings.Repeat("Nil Pop ", 100) + "Nil Return")}, api.MaxFns)
	var l []api.Graph
	for fn := range p {
		g := trials.Graph(0, "Value Int n"+strconv.Itoa(fn)+"; Print 0 s0; Return 0", "0:; 2:")
		g.Fn = fn
		l = append(l, g)
	}
	slices.Reverse(l)
	if o := run(t, p, l, 1, 0); !slices.Equal(o.Out, []string{"0"}) {
		t.Error(brief(o))
	}
	wantError(t, p, slices.Repeat(l[:1], 100), 1, 0, api.ErrArg)
}

// P16.4: each way through a graph that may be goes round only by points.
func TestRound(t *testing.T) {
	t.Parallel()
	wantCheck(t, nothing(), trials.Graph(0, "Value; Jump >1 | Jump >2 | Jump >1", "0:"), false)
	wantCheck(t, nothing(), trials.Graph(0, "Value; Jump >1 | Jump >2 | Loop >1 s0", "0:"), true)
	wantCheck(t, nothing(), trials.Graph(0, "Value Bool; Jump >1 | Jump >2 | Unless 0 >1 >3 s0 | Return 0", "0:"), false)
}
