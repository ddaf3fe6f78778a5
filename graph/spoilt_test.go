package graph_test

import (
	"math"
	"slices"
	"testing"

	"gearbox/api"
	"gearbox/samples"
	"gearbox/trials"
)

// copyOf: a graph in other memory.
func copyOf(g api.Graph) api.Graph {
	g.Nodes, g.Blocks, g.States = slices.Clone(g.Nodes), slices.Clone(g.Blocks), slices.Clone(g.States)
	for n := range g.Nodes {
		g.Nodes[n].Args = slices.Clone(g.Nodes[n].Args)
	}
	for b := range g.Blocks {
		x := &g.Blocks[b]
		x.Nodes, x.Args, x.Next, x.Ahead = slices.Clone(x.Nodes), slices.Clone(x.Args), slices.Clone(x.Next), slices.Clone(x.Ahead)
	}
	for n := range g.States {
		g.States[n].Slots = slices.Clone(g.States[n].Slots)
	}
	return g
}

// spoiler changes a graph.
type spoiler struct {
	dice *samples.Dice
	g    api.Graph
}

// spoilt: something in a graph is otherwise, be it wrong or not.
func spoilt(d *samples.Dice, g api.Graph) api.Graph {
	s := spoiler{d, copyOf(g)}
	for range 1 + d.Below(2)*d.Below(2) {
		switch d.Below(10) {
		case 0, 1, 2, 3:
			s.node()
		case 4, 5, 6:
			s.block()
		case 7, 8:
			s.state()
		case 9:
			s.whole()
		}
	}
	return s.g
}

// near: a number that is another one, mostly not much.
func (s *spoiler) near(n int) int {
	return []int{n + 1, n - 1, -1, 0, s.dice.Below(4), s.dice.Below(30), math.MaxInt, math.MinInt, n + s.dice.Below(7) - 3, -2}[s.dice.Below(10)]
}

// list: one of its numbers is another one, or it is longer, or shorter.
func (s *spoiler) list(l []int) []int {
	at := s.dice.Below(len(l) + 1)
	switch s.dice.Below(4) {
	case 0:
		return slices.Insert(l, at, s.dice.Below(8)-1)
	case 1:
		if at < len(l) {
			return slices.Delete(l, at, at+1)
		}
	case 2:
		if at+1 < len(l) {
			l[at], l[at+1] = l[at+1], l[at]
			return l
		}
	}
	if at < len(l) {
		l[at] = s.near(l[at])
	}
	return l
}

func (s *spoiler) node() {
	if len(s.g.Nodes) == 0 {
		return
	}
	x := &s.g.Nodes[s.dice.Below(len(s.g.Nodes))]
	switch s.dice.Below(6) {
	case 0:
		x.Op = api.NodeOp(s.dice.Below(int(api.NoPrint) + 3))
	case 1:
		x.N = int64(s.near(int(x.N)))
	case 2:
		x.Kind = api.Kind(s.dice.Below(int(api.Items) + 2))
	case 3:
		x.State = s.near(x.State)
	default:
		x.Args = s.list(x.Args)
	}
}

func (s *spoiler) block() {
	if len(s.g.Blocks) == 0 {
		return
	}
	b := s.dice.Below(len(s.g.Blocks))
	x := &s.g.Blocks[b]
	switch s.dice.Below(9) {
	case 0, 1:
		x.Nodes = s.list(x.Nodes)
	case 2:
		x.End = api.EndOp(s.dice.Below(int(api.BkThrow) + 3))
	case 3:
		x.Args = s.list(x.Args)
	case 4:
		x.Next = s.list(x.Next)
	case 5:
		x.Next = s.list(x.Next)
		trials.Ahead(s.g)
	case 6:
		x.Ahead = s.list(x.Ahead)
	case 7:
		x.State = s.near(x.State)
	case 8:
		// a node stands elsewhere
		to := &s.g.Blocks[s.dice.Below(len(s.g.Blocks))]
		if at := s.dice.Below(len(x.Nodes) + 1); at < len(x.Nodes) {
			n := x.Nodes[at]
			x.Nodes = slices.Delete(x.Nodes, at, at+1)
			to.Nodes = slices.Insert(to.Nodes, s.dice.Below(len(to.Nodes)+1), n)
		}
	}
}

func (s *spoiler) state() {
	if len(s.g.States) == 0 {
		return
	}
	at := s.dice.Below(len(s.g.States))
	x := &s.g.States[at]
	switch s.dice.Below(4) {
	case 0:
		x.Pc = s.near(x.Pc)
	case 1:
		s.g.States = slices.Delete(s.g.States, at, at+1)
	default:
		x.Slots = s.list(x.Slots)
	}
}

func (s *spoiler) whole() {
	switch s.dice.Below(6) {
	case 0:
		s.g.Fn = s.near(s.g.Fn)
	case 1:
		s.g.Pc = s.near(s.g.Pc)
	case 2:
		s.g.Slots = s.near(s.g.Slots)
	case 3:
		s.g.Nodes = append(s.g.Nodes, api.Node{Op: api.NoValue, State: -1})
	case 4:
		s.g.Nodes = s.g.Nodes[:max(0, len(s.g.Nodes)-1)]
	case 5:
		s.g.Blocks = append(s.g.Blocks, api.Block{End: api.BkReturn, Args: []int{0}, State: -1})
	}
}

// P16.1: graphs of every form, as they are and spoilt, against what the chapter tells.
func TestCheckAny(t *testing.T) {
	t.Parallel()
	may := map[bool]int{}
	for seed := range 3000 {
		p, d := samples.Code(seed), samples.Dice(seed)
		fn := d.Below(len(p))
		depths := depthsOf(t, p, fn)
		pc := d.Below(len(depths))
		if depths[pc] < 0 {
			pc = 0
		}
		g := samples.Graph(&d, p, fn, pc, depths)
		wantCheck(t, p, g, true)
		if !tells(p, g) {
			t.Fatalf("%s%s: it may be", brief(p), brief(g))
		}
		for range 12 {
			may[checked(t, p, spoilt(&d, g))]++
		}
	}
	if may[true] < 2500 || may[false] < 10000 {
		t.Error(may)
	}
}

// P16.1: likewise of graphs that do what the code does, from places that loops go back to, too.
func TestCheckTracks(t *testing.T) {
	t.Parallel()
	may := map[bool]int{}
	for seed := range 600 {
		p, d := samples.Code(seed), samples.Dice(seed)
		fn := d.Below(len(p))
		depths := depthsOf(t, p, fn)
		for pc, i := range p[fn].Code {
			from := pc
			if i.Op == api.OpLoop {
				from = i.A
			} else if pc > 0 {
				continue
			}
			if depths[pc] < 0 || depths[from] < 0 {
				continue
			}
			g := []making{track, samples.Bypath}[seed%2](&d, p, fn, from, depths)
			if !checked(t, p, g) {
				t.Fatalf("%s%s: it may be", brief(p), brief(g))
			}
			for range 6 {
				may[checked(t, p, spoilt(&d, g))]++
			}
		}
	}
	if may[true] < 500 || may[false] < 3000 {
		t.Error(may)
	}
}
