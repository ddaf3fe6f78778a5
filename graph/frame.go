package graph

import (
	"gearbox/api"
	"gearbox/machine"
)

// frame is a frame of a graph: one of the machine's. Values of nodes that stand neither above its block nor in it are used no more, and gone.
type frame struct {
	code   *code
	by     api.Val   // the Func by which it was called; the main one's: nil
	slots  []api.Val // what the graph was come into with, till the block 0 is left
	block  int
	values []api.Val // by the places of nodes
	waits  bool      // for what the call comes to that is next in its block
	taken  []api.Val // what the node was done with that is next
}

// enter: a frame with these slots; those that are not there are nil.
func (c *code) enter(by api.Val, slots []api.Val) *frame {
	f := &frame{code: c, by: by, slots: make([]api.Val, c.graph.Slots)}
	copy(f.slots, slots)
	return f
}

// Step: the next node is done, or the end of the block.
func (f *frame) Step(m *machine.Machine) {
	x, b := f.next()
	if x != nil {
		f.do(m, x)
		return
	}
	f.code.ends[b.End](f, m, b)
}

// next: the node that is done next, in its block; nil: the end of that.
func (f *frame) next() (*api.Node, *api.Block) {
	b := &f.code.graph.Blocks[f.block]
	done := len(f.values) - f.code.below[f.block]
	if done == len(b.Nodes) {
		return nil, b
	}
	return &f.code.graph.Nodes[b.Nodes[done]], b
}

// tells: the next node comes to a value.
func (f *frame) tells(v api.Val) { f.values = append(f.values, v) }

// Gets: so does the call that it waits for.
func (f *frame) Gets(v api.Val) {
	f.waits = false
	f.tells(v)
}

// goes: to the n-th of the blocks that its own one leads to. The phis of that one are of values as they are here, those of phis, too.
func (f *frame) goes(n int) {
	w := f.code.ways[f.block][n]
	f.taken = f.taken[:0]
	for _, phi := range f.code.graph.Blocks[w.to].Nodes[:f.code.phis[w.to]] {
		f.taken = append(f.taken, f.value(f.code.graph.Nodes[phi].Args[w.from]))
	}
	f.block, f.slots = w.to, nil
	f.values = append(f.values[:f.code.below[w.to]], f.taken...)
}

// value: what a node came to that stands ahead of what is next, or above its block.
func (f *frame) value(node int) api.Val { return f.values[f.code.place[node]] }

// args: the values of these nodes, till others are asked for.
func (f *frame) args(l []int) []api.Val {
	f.taken = f.taken[:0]
	for _, n := range l {
		f.taken = append(f.taken, f.value(n))
	}
	return f.taken
}

// Roots: what its state tells.
func (f *frame) Roots(yield func(v *api.Val) bool) {
	_, told := f.told()
	for _, n := range told {
		if n != none && !yield(&f.values[f.code.place[n]]) {
			return
		}
	}
	yield(&f.by)
}

// Beside: what nodes came to, and what it was come into with.
func (f *frame) Beside(yield func(v *api.Val) bool) {
	for _, l := range [][]api.Val{f.values, f.slots} {
		for n := range l {
			if l[n].Kind >= api.Text && !yield(&l[n]) {
				return
			}
		}
	}
}

// Fallen: the frame of the first gear that its state tells.
func (f *frame) Fallen() *machine.Stack {
	pc, told := f.told()
	slots := make([]api.Val, len(told))
	for k, n := range told {
		if n != none {
			slots[k] = f.value(n)
		}
	}
	return machine.StackAt(f.code.fn, f.by, pc, slots)
}

// told: where the first gear would be, and the nodes that its slots are. A call that it waits for has taken its values.
func (f *frame) told() (pc int, slots []int) {
	x, b := f.next()
	if x == nil {
		s := f.code.graph.States[b.State]
		return s.Pc, s.Slots
	}
	s := f.code.graph.States[x.State]
	if f.waits {
		return s.Pc, s.Slots[:len(s.Slots)-len(x.Args)]
	}
	return s.Pc, s.Slots
}
