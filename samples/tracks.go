package samples

import (
	"slices"

	"gearbox/api"
)

// Track: a graph of a function that does each thing in its turn, from a place on that is come to: its beginning, or one that a loop goes back to. Depths are those of the function's places. Where no block can be (behind handlers, or come to by loops alone) it falls.
func Track(p api.Program, fn, pc int, depths []int) api.Graph {
	return newTracker(nil, p, fn, pc, depths).track()
}

// Bypath: likewise, with something beside that comes to the same: numbers that are taken to be whole, guards, values that are used no more, nodes that stand for nil, places at which it falls.
func Bypath(d *Dice, p api.Program, fn, pc int, depths []int) api.Graph {
	return renumbered(d, newTracker(d, p, fn, pc, depths).track())
}

// tracker makes a graph place by place. Without dice it leaves the track nowhere.
type tracker struct {
	dice    *Dice
	p       api.Program
	f       *api.Fn
	depths  []int
	led     []bool // of each place: is it come to without handlers, by ways that do not go back?
	graph   api.Graph
	begins  map[int]int   // of each place at which a block begins: that block
	targets map[int][]int // of each block: the places that it leads to; below 0: the block of that number less 1
	outs    [][]int       // of each block: the nodes of the slots at its end
	slots   []int         // the nodes of the slots
	pc      int
	done    bool // has the block an end?
}

func newTracker(d *Dice, p api.Program, fn, pc int, depths []int) *tracker {
	t := &tracker{dice: d, p: p, f: &p[fn], depths: depths, led: make([]bool, len(depths)), begins: map[int]int{}, targets: map[int][]int{}}
	t.graph = api.Graph{Fn: fn, Pc: pc, Slots: t.f.Locals + depths[pc]}
	t.led[pc] = true
	for at := range t.led {
		if t.led[at] {
			for _, to := range t.next(at) {
				t.led[to] = t.led[to] || to > at
			}
		}
	}
	return t
}

// next: the places that come behind one.
func (t *tracker) next(pc int) []int {
	switch i := t.f.Code[pc]; i.Op {
	case api.OpReturn, api.OpThrow:
		return nil
	case api.OpJump, api.OpLoop:
		return []int{i.A}
	case api.OpUnless:
		return []int{pc + 1, i.A}
	}
	return []int{pc + 1}
}

func (t *tracker) track() api.Graph {
	begins := make([]bool, len(t.led)) // of each place: does a block begin there?
	for pc := range t.led {
		if next := t.next(pc); t.led[pc] && (len(next) > 1 || t.f.Code[pc].Op == api.OpJump || t.f.Code[pc].Op == api.OpLoop) {
			for _, to := range next {
				begins[to] = true
			}
		}
	}
	t.block()
	for k := range t.graph.Slots {
		t.slots = append(t.slots, t.add(api.Node{Op: api.NoSlot, N: int64(k), State: -1}))
	}
	t.ends(api.BkJump, -1, t.graph.Pc)
	begins[t.graph.Pc] = true
	for pc := range t.led {
		if !t.led[pc] {
			continue
		}
		t.pc = pc
		if begins[pc] {
			if !t.done {
				t.ends(api.BkJump, -1, pc)
			}
			t.begin()
		}
		t.bypath()
		t.turn(t.f.Code[pc])
	}
	t.join()
	return t.graph
}

// block: a new one, to which nodes are added from now on.
func (t *tracker) block() {
	t.graph.Blocks, t.outs = append(t.graph.Blocks, api.Block{State: -1}), append(t.outs, nil)
	t.done = false
}

// begin: a block at the place, each slot of which is a phi.
func (t *tracker) begin() {
	t.block()
	t.begins[t.pc] = len(t.graph.Blocks) - 1
	t.slots = nil
	for range t.f.Locals + t.depths[t.pc] {
		t.slots = append(t.slots, t.add(api.Node{Op: api.NoPhi, State: -1}))
	}
}

// add: a node in the block.
func (t *tracker) add(x api.Node) int {
	n := len(t.graph.Nodes)
	t.graph.Nodes = append(t.graph.Nodes, x)
	b := &t.graph.Blocks[len(t.graph.Blocks)-1]
	b.Nodes = append(b.Nodes, n)
	return n
}

// ends: the block ends; it leads to these places.
func (t *tracker) ends(end api.EndOp, state int, places ...int) {
	b := len(t.graph.Blocks) - 1
	t.graph.Blocks[b].End, t.graph.Blocks[b].State = end, state
	t.targets[b], t.outs[b], t.done = places, slices.Clone(t.slots), true
}

// with: what the end of the block takes.
func (t *tracker) with(node int) {
	t.graph.Blocks[len(t.graph.Blocks)-1].Args = []int{node}
}

// join: blocks are told where they lead to, phis what they are.
func (t *tracker) join() {
	for b := range t.graph.Blocks {
		for _, pc := range t.targets[b] {
			to := -1 - pc
			if pc >= 0 {
				to = t.begins[pc]
			}
			t.graph.Blocks[b].Next = append(t.graph.Blocks[b].Next, to)
			t.graph.Blocks[to].Ahead = append(t.graph.Blocks[to].Ahead, b)
		}
	}
	for _, x := range t.graph.Blocks {
		for k, n := range x.Nodes {
			if t.graph.Nodes[n].Op == api.NoPhi {
				for _, from := range x.Ahead {
					t.graph.Nodes[n].Args = append(t.graph.Nodes[n].Args, t.outs[from][k])
				}
			}
		}
	}
}

// state: the frame ahead of the place's instruction.
func (t *tracker) state() int {
	s := api.State{Pc: t.pc, Slots: slices.Clone(t.slots)}
	for k, n := range s.Slots {
		if x := t.graph.Nodes[n]; t.dice != nil && x.Op == api.NoValue && x.Kind == api.Nil && t.dice.Below(2) == 0 {
			s.Slots[k] = -1
		}
	}
	t.graph.States = append(t.graph.States, s)
	return len(t.graph.States) - 1
}

// put: a node that has a state.
func (t *tracker) put(op api.NodeOp, n int, args ...int) int {
	return t.add(api.Node{Op: op, N: int64(n), Args: args, State: t.state()})
}

func (t *tracker) value(kind api.Kind, n int64) int {
	return t.add(api.Node{Op: api.NoValue, Kind: kind, N: n, State: -1})
}

func (t *tracker) last(n int) []int { return slices.Clone(t.slots[len(t.slots)-n:]) }

// comes: so many values are taken, and a node is pushed.
func (t *tracker) comes(takes, node int) {
	t.slots = append(slices.Clone(t.slots[:len(t.slots)-takes]), node)
}

func (t *tracker) take(n int) { t.slots = slices.Clone(t.slots[:len(t.slots)-n]) }

// turn: what is made for an instruction.
func (t *tracker) turn(i api.Ins) {
	switch i.Op {
	case api.OpConst:
		t.comes(0, t.put(api.NoConst, i.A))
	case api.OpNil:
		t.comes(0, t.value(api.Nil, 0))
	case api.OpYes, api.OpNo:
		t.comes(0, t.value(api.Bool, int64(api.OpNo-i.Op)))
	case api.OpLoad:
		t.comes(0, t.slots[i.A])
	case api.OpStore:
		v := t.last(1)[0]
		t.take(1)
		t.slots[i.A] = v
	case api.OpCell:
		v := t.put(api.NoCell, 0, t.slots[i.A])
		t.take(0)
		t.slots[i.A] = v
	case api.OpCellLoad:
		t.comes(0, t.put(api.NoCellLoad, 0, t.slots[i.A]))
	case api.OpCellStore:
		t.put(api.NoCellStore, 0, t.slots[i.A], t.last(1)[0])
		t.take(1)
	case api.OpUp:
		t.comes(0, t.add(api.Node{Op: api.NoUp, N: int64(i.A), State: -1}))
	case api.OpUpStore:
		t.put(api.NoUpStore, i.A, t.last(1)...)
		t.take(1)
	case api.OpPop:
		t.take(1)
	case api.OpDup:
		t.comes(0, t.last(1)[0])
	case api.OpJump, api.OpUnless, api.OpLoop, api.OpReturn, api.OpThrow:
		t.turnAway(i)
	default:
		t.ofValues(i)
	}
}

// turnAway: likewise, of an instruction that ends a block.
func (t *tracker) turnAway(i api.Ins) {
	switch i.Op {
	case api.OpJump:
		t.ends(api.BkJump, -1, i.A)
	case api.OpLoop:
		if t.led[i.A] {
			t.ends(api.BkLoop, t.state(), i.A)
		} else {
			t.falls()
		}
	case api.OpReturn:
		t.with(t.last(1)[0])
		t.ends(api.BkReturn, -1)
	case api.OpThrow:
		t.with(t.last(1)[0])
		t.ends(api.BkThrow, t.state())
	case api.OpUnless:
		state := t.state()
		t.with(t.last(1)[0])
		t.take(1)
		if i.A != t.pc+1 {
			t.ends(api.BkUnless, state, t.pc+1, i.A)
			return
		}
		t.ends(api.BkUnless, state, -1-len(t.graph.Blocks), i.A) // both lead to one place, but not to one block
		t.block()
		t.ends(api.BkJump, -1, i.A)
	}
}

// falls: the block ends at the place.
func (t *tracker) falls() {
	t.with(t.value(api.Nil, 0))
	t.ends(api.BkThrow, t.state())
}

// ofValues: likewise, of an instruction that does something with the last values.
func (t *tracker) ofValues(i api.Ins) {
	switch i.Op {
	case api.OpBin:
		op := api.NoBin
		if t.dice != nil && i.A <= int(api.Most) && t.dice.Below(2) == 0 {
			op = api.NoIntBin
		}
		t.comes(2, t.put(op, i.A, t.last(2)...))
	case api.OpNot, api.OpNeg, api.OpLen, api.OpShow:
		t.comes(1, t.put(api.NoNot+api.NodeOp(i.Op-api.OpNot), 0, t.last(1)...))
	case api.OpList:
		t.comes(i.A, t.put(api.NoList, 0, t.last(i.A)...))
	case api.OpMap:
		t.comes(2*i.A, t.put(api.NoMap, 0, t.last(2*i.A)...))
	case api.OpGet:
		t.comes(2, t.put(api.NoGet, 0, t.last(2)...))
	case api.OpPut:
		t.put(api.NoPut, 0, t.last(3)...)
		t.take(3)
	case api.OpFn:
		var own []int
		for _, c := range t.p[i.A].Caps {
			if !c.Up {
				own = append(own, t.slots[c.N])
			}
		}
		t.comes(0, t.put(api.NoFn, i.A, own...))
	case api.OpCall:
		t.comes(i.A+1, t.put(api.NoCall, 0, t.last(i.A+1)...))
	case api.OpPrint:
		t.put(api.NoPrint, 0, t.last(1)...)
		t.take(1)
	}
}

// bypath: something ahead of an instruction that makes no difference.
func (t *tracker) bypath() {
	if t.dice == nil {
		return
	}
	switch t.dice.Below(30) {
	case 0:
		if k := t.dice.Below(1 + len(t.slots)); k < len(t.slots) {
			n := t.put(api.NoGuard, 0, t.slots[k])
			t.graph.Nodes[n].Kind = api.Kind(t.dice.Below(int(api.Cell)))
			t.take(0)
			t.slots[k] = n
		}
	case 1:
		t.value(api.Int, int64(t.dice.Below(3)))
	case 2:
		t.crossing()
	}
}

// crossing: from here it goes on, or it falls.
func (t *tracker) crossing() {
	b := len(t.graph.Blocks)
	t.with(t.value(api.Bool, int64(t.dice.Below(5)+3)/4))
	slots := t.slots
	t.ends(api.BkUnless, t.state(), -1-(b+1), -1-b)
	t.block()
	t.falls()
	t.block()
	t.slots = slots
}
