package samples

import (
	"slices"

	"gearbox/api"
)

// Graph: one of a function that may be, from a place on that is come to, and that has little to do with what the function does. Depths are those of the function's places.
func Graph(d *Dice, p api.Program, fn, pc int, depths []int) api.Graph {
	w := &grapher{dice: d, p: p, f: &p[fn], depths: depths}
	for at, deep := range depths {
		if deep >= 0 {
			w.places = append(w.places, at)
			if w.f.Code[at].Op == api.OpCall {
				w.calling = append(w.calling, at)
			}
		}
	}
	w.graph = api.Graph{Fn: fn, Pc: pc, Slots: w.f.Locals + depths[pc], Blocks: blocks(d)}
	above := above(w.graph.Blocks)
	ends := make([][]int, len(above)) // of each block: what is there at its end
	for b := range w.graph.Blocks {
		w.there = nil
		for _, a := range above[b] {
			w.there = append(w.there, w.graph.Blocks[a].Nodes...)
		}
		w.block(b)
		ends[b] = w.there
	}
	for _, x := range w.graph.Blocks {
		for _, n := range x.Nodes {
			if w.graph.Nodes[n].Op == api.NoPhi {
				for k, from := range x.Ahead {
					w.there = ends[from]
					w.graph.Nodes[n].Args[k] = w.of(w.kinds[n])
				}
			}
		}
	}
	w.unused()
	return renumbered(d, w.graph)
}

// grapher makes a graph block by block.
type grapher struct {
	dice    *Dice
	p       api.Program
	f       *api.Fn
	depths  []int
	places  []int // those that are come to
	calling []int // those of them that call
	graph   api.Graph
	kinds   []api.Kind // of each node, of what kind it may be
	there   []int      // the nodes that may be used
	here    int        // the block
}

func (w *grapher) block(b int) {
	w.here = b
	if b > 0 {
		for range w.dice.Below(4) {
			x := w.add(api.Kind(w.dice.Below(int(api.Func)+1)), api.Node{Op: api.NoPhi, State: -1})
			w.graph.Nodes[x].Args = make([]int, len(w.graph.Blocks[b].Ahead))
		}
	} else {
		w.begins()
	}
	for range w.dice.Below(7) {
		if w.dice.Below(2) == 0 {
			w.makes()
		} else {
			w.does()
		}
	}
	x := &w.graph.Blocks[b]
	switch x.End {
	case api.BkUnless:
		x.Args = []int{w.of(api.Bool)}
	case api.BkReturn, api.BkThrow:
		x.Args = []int{w.any()}
	}
	if x.End == api.BkUnless || x.End == api.BkLoop || x.End == api.BkThrow {
		x.State = w.state(w.place())
	}
}

// begins: values to begin with.
func (w *grapher) begins() {
	w.value(api.Nil, 0)
	for k := range w.graph.Slots {
		if w.dice.Below(3) > 0 {
			w.add(api.Nil, api.Node{Op: api.NoSlot, N: int64(k), State: -1})
		}
		w.makes()
	}
	w.makes()
	w.makes()
}

// add: a node in the block.
func (w *grapher) add(kind api.Kind, x api.Node) int {
	n := len(w.graph.Nodes)
	w.graph.Nodes, w.kinds, w.there = append(w.graph.Nodes, x), append(w.kinds, kind), append(w.there, n)
	w.graph.Blocks[w.here].Nodes = append(w.graph.Blocks[w.here].Nodes, n)
	return n
}

func (w *grapher) value(kind api.Kind, n int64) {
	w.add(kind, api.Node{Op: api.NoValue, Kind: kind, N: n, State: -1})
}

// put: one that has a state.
func (w *grapher) put(kind api.Kind, op api.NodeOp, n int64, args ...int) int {
	return w.add(kind, api.Node{Op: op, N: n, Args: args, State: w.state(w.place())})
}

func (w *grapher) any() int { return w.there[w.dice.Below(len(w.there))] }

// of: a node that comes to a value of a kind, mostly.
func (w *grapher) of(kind api.Kind) int {
	at := w.dice.Below(len(w.there))
	for try := 0; try < len(w.there) && w.kinds[w.there[at]] != kind && w.dice.Below(20) > 0; try++ {
		at = (at + 1) % len(w.there)
	}
	return w.there[at]
}

// some: so many that are no cells, mostly.
func (w *grapher) some(n int) []int {
	var l []int
	for range n {
		x := w.any()
		if w.kinds[x] == api.Cell {
			x = w.of(api.Int)
		}
		l = append(l, x)
	}
	return l
}

func (w *grapher) place() int { return w.places[w.dice.Below(len(w.places))] }

// state: one that tells a frame at a place, as it may be here: mostly a new one.
func (w *grapher) state(pc int) int {
	for n, s := range w.graph.States {
		told := func(x int) bool { return x >= 0 && !slices.Contains(w.there, x) }
		if s.Pc == pc && w.dice.Below(2) == 0 && !slices.ContainsFunc(s.Slots, told) {
			return n
		}
	}
	s := api.State{Pc: pc}
	for range w.f.Locals + w.depths[pc] {
		if w.dice.Below(6) == 0 {
			s.Slots = append(s.Slots, -1)
		} else {
			s.Slots = append(s.Slots, w.any())
		}
	}
	w.graph.States = append(w.graph.States, s)
	return len(w.graph.States) - 1
}

// unused: states that nobody has, of any nodes.
func (w *grapher) unused() {
	for n := range w.graph.Nodes {
		w.there = append(w.there, n)
	}
	for range w.dice.Below(3) {
		w.state(w.place())
	}
}

func (w *grapher) makes() {
	switch n := w.dice.Below(4); w.dice.Below(11) {
	case 0:
		w.value(api.Bool, int64(n%2))
	case 1, 2:
		w.value(api.Int, int64(n)-1)
	case 3, 4:
		if c := w.dice.Below(1 + len(w.f.Consts)); c < len(w.f.Consts) {
			w.put(w.f.Consts[c].Kind, api.NoConst, int64(c))
			return
		}
		w.value(api.Nil, 0)
	case 5:
		w.put(api.List, api.NoList, 0, w.some(n)...)
	case 6:
		w.put(api.Map, api.NoMap, 0, w.some(2*n)...)
	case 7:
		w.put(api.Cell, api.NoCell, 0, w.some(1)...)
	case 8, 9:
		w.makesFn()
	case 10:
		if len(w.f.Caps) > 0 {
			w.add(api.Nil, api.Node{Op: api.NoUp, N: int64(w.dice.Below(len(w.f.Caps))), State: -1})
		}
	}
}

// makesFn: of a function that this one makes, if it makes any, over cells that are new, mostly; -1, if it makes none.
func (w *grapher) makesFn() (fn, node int) {
	var made []int
	for _, i := range w.f.Code {
		if i.Op == api.OpFn {
			made = append(made, i.A)
		}
	}
	if len(made) == 0 {
		return -1, -1
	}
	fn = made[w.dice.Below(len(made))]
	var cells []int
	for _, c := range w.p[fn].Caps {
		switch {
		case c.Up:
		case w.dice.Below(6) == 0:
			cells = append(cells, w.of(api.Cell))
		default:
			cells = append(cells, w.put(api.Cell, api.NoCell, 0, w.some(1)...))
		}
	}
	return fn, w.put(api.Func, api.NoFn, int64(fn), cells...)
}

func (w *grapher) does() {
	bin := int64(1 + w.dice.Below(int(api.Unlike)))
	switch w.dice.Below(16) {
	case 0:
		w.put(api.Nil, api.NoCellLoad, 0, w.of(api.Cell))
	case 1:
		w.put(api.Nil, api.NoCellStore, 0, w.of(api.Cell), w.some(1)[0])
	case 2:
		w.put(api.Bool, api.NoNot, 0, w.of(api.Bool))
	case 3:
		w.put(api.Int, api.NoNeg, 0, w.of(api.Int))
	case 4:
		w.put(api.Int, api.NoLen, 0, w.of(api.List))
	case 5:
		w.put(api.Text, api.NoShow, 0, w.some(1)...)
	case 6:
		w.put([]api.Kind{api.Int, api.Bool}[bin/int64(api.Less)%2], api.NoBin, bin, w.of(api.Int), w.of(api.Int))
	case 7:
		w.put(api.Text, api.NoBin, int64(api.Add), w.of(api.Text), w.of(api.Text))
	case 8:
		w.put(api.Int, api.NoIntBin, 1+bin%int64(api.Most), w.of(api.Int), w.of(api.Int))
	case 9:
		x := w.any()
		n := w.put(w.kinds[x], api.NoGuard, 0, x)
		w.graph.Nodes[n].Kind = w.kinds[x] % api.Cell
	case 10:
		w.put(api.Nil, api.NoGet, 0, w.of(api.Kind(3+w.dice.Below(3))), w.of(api.Int))
	case 11:
		w.put(api.Nil, api.NoPut, 0, append([]int{w.of(api.Kind(4 + w.dice.Below(2))), w.of(api.Int)}, w.some(1)...)...)
	case 12:
		w.put(api.Nil, api.NoPrint, 0, w.some(1)...)
	case 13:
		if len(w.f.Caps) > 0 {
			w.put(api.Nil, api.NoUpStore, int64(w.dice.Below(len(w.f.Caps))), w.some(1)...)
		}
	default:
		w.calls()
	}
}

// calls: as the function does it at one of its places: what was made just now, mostly.
func (w *grapher) calls() {
	called := w.of(api.Func)
	fn, made := w.makesFn()
	l := w.calling
	fit := slices.DeleteFunc(slices.Clone(l), func(pc int) bool { return fn < 0 || w.f.Code[pc].A != w.p[fn].Params })
	if len(fit) > 0 && w.dice.Below(8) > 0 {
		called, l = made, fit
	}
	if len(l) == 0 {
		return
	}
	pc := l[w.dice.Below(len(l))]
	args := append([]int{called}, w.some(w.f.Code[pc].A)...)
	w.add(api.Nil, api.Node{Op: api.NoCall, Args: args, State: w.state(pc)})
}

// renumbered: the same graph, whose nodes have other numbers.
func renumbered(d *Dice, g api.Graph) api.Graph {
	number := make([]int, len(g.Nodes))
	for k := range number {
		number[k] = k
		with := d.Below(k + 1)
		number[k], number[with] = number[with], number[k]
	}
	all := func(l []int) {
		for k, n := range l {
			if n >= 0 {
				l[k] = number[n]
			}
		}
	}
	nodes := make([]api.Node, len(g.Nodes))
	for n, x := range g.Nodes {
		all(x.Args)
		nodes[number[n]] = x
	}
	g.Nodes = nodes
	for b := range g.Blocks {
		all(g.Blocks[b].Nodes)
		all(g.Blocks[b].Args)
	}
	for s := range g.States {
		all(g.States[s].Slots)
	}
	return g
}
