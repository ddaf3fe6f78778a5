package world

import (
	"slices"

	"gearbox/api"
	"gearbox/prim"
)

// tour is where a frame of a graph is.
type tour struct {
	graph *api.Graph
	entry []api.Val       // what it was come into with
	told  map[int]api.Val // of each node that was done: what it came to
	block int
	from  int // the block from which this one was come to
	at    int // how many of its nodes were done
}

// enter: a frame comes into a graph, its stack being empty.
func (f *frame) enter(g *api.Graph) {
	f.tour = &tour{graph: g, entry: slices.Clone(f.locals), told: map[int]api.Val{}}
}

// node: the one that is done next; false: it is the block's end.
func (t *tour) node() (int, bool) {
	l := t.graph.Blocks[t.block].Nodes
	if t.at == len(l) {
		return 0, false
	}
	return l[t.at], true
}

// state: which one tells the frame.
func (t *tour) state() int {
	if n, ok := t.node(); ok {
		return t.graph.Nodes[n].State
	}
	return t.graph.Blocks[t.block].State
}

// slots: as its state tells them.
func (t *tour) slots() []api.Val {
	var l []api.Val
	for _, n := range t.graph.States[t.state()].Slots {
		if n == -1 {
			l = append(l, api.Val{})
			continue
		}
		v, ok := t.told[n]
		if !ok {
			panic("a slot that was not told")
		}
		l = append(l, v)
	}
	return l
}

func (t *tour) values(l []int) []api.Val {
	var values []api.Val
	for _, n := range l {
		v, ok := t.told[n]
		if !ok {
			panic("an arg that was not told")
		}
		values = append(values, v)
	}
	return values
}

// comes: to a block, whose phis are all told at once.
func (t *tour) comes(to int) {
	from, before := t.block, t.values
	t.from, t.block, t.at = from, to, 0
	k := slices.Index(t.graph.Blocks[to].Ahead, from)
	var phis []int
	var l []api.Val
	for _, n := range t.graph.Blocks[to].Nodes {
		if x := t.graph.Nodes[n]; x.Op == api.NoPhi {
			phis, l = append(phis, n), append(l, before(x.Args[k:k+1])...)
		}
	}
	for i, n := range phis {
		t.told[n] = l[i]
		t.at++
	}
}

// next: the node that is next comes to a value.
func (t *tour) next(v api.Val) {
	n, _ := t.node()
	t.told[n] = v
	t.at++
}

// graphNode: the node of a frame that is next, or its block's end.
func (w *World) graphNode(f *frame) {
	w.met(w.name(f))
	t := f.tour
	n, ok := t.node()
	if !ok {
		w.graphEnd(f, t.graph.Blocks[t.block])
		return
	}
	x := t.graph.Nodes[n]
	l := t.values(x.Args)
	switch x.Op {
	case api.NoSlot:
		t.next(t.entry[x.N])
	case api.NoCall:
		w.callOrFall(f, l)
	default:
		w.nodeDeed(f, x, l)
	}
}

// nodeDeed: what a node comes to that does as an instruction of registers does.
func (w *World) nodeDeed(f *frame, x api.Node, l []api.Val) {
	op := slices.Index(w.regWords, "R"+w.nodeWords[x.Op][2:])
	d, ok := w.did(f, api.RegIns{Op: api.RegOp(op), N: x.N, Kind: x.Kind}, l)
	switch {
	case !ok:
	case x.Op == api.NoGuard:
		f.tour.next(l[0])
	case x.Op == api.NoCellStore || x.Op == api.NoUpStore || x.Op == api.NoPut || x.Op == api.NoPrint:
		f.tour.next(api.Val{})
	default:
		f.tour.next(d.Val)
	}
}

func (w *World) graphEnd(f *frame, b api.Block) {
	t := f.tour
	l := t.values(b.Args)
	switch b.End {
	case api.BkJump:
		t.comes(b.Next[0])
	case api.BkUnless:
		switch l[0] {
		case api.Val{Kind: api.Bool, N: 1}:
			t.comes(b.Next[0])
		case api.Val{Kind: api.Bool}:
			t.comes(b.Next[1])
		default:
			w.fall(f)
		}
	case api.BkLoop:
		if w.point() {
			t.comes(b.Next[0])
		}
	case api.BkReturn:
		w.back(l[0])
	default:
		w.fall(f)
	}
}

// did: what an instruction of registers does with values; false: the frame fell, or there is no room.
func (w *World) did(f *frame, i api.RegIns, l []api.Val) (prim.Did, bool) {
	d := w.regOperation(f, i, l)
	if d.Thrown != "" {
		w.fall(f)
		return d, false
	}
	if !w.asks(d.Words) {
		return d, false
	}
	w.store = d.Store
	if i.Op == api.RPrint {
		w.prints(l[0])
	}
	return d, true
}

// callOrFall: a frame of another gear calls.
func (w *World) callOrFall(f *frame, l []api.Val) {
	if w.refuses(l[0], len(l)-1) != "" {
		w.fall(f)
	} else if w.point() {
		f.taken = len(l)
		w.begin(w.store[l[0].N-1].Fn, l[0], l[1:])
	}
}
