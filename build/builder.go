package build

import "gearbox/api"

// The most that a graph may need.
const (
	mostBlocks = api.MaxParts
	mostNodes  = 64 * api.MaxParts
)

// builder builds a graph, place by place.
type builder struct {
	p         api.Program
	fn        *api.Fn
	lay       *lay
	ints      []bool // of each place: are its operands taken to be whole numbers?
	templates templates
	pc        int   // the place that it builds for
	slots     []int // the node of each slot there
	graph     api.Graph
	outs      [][]int           // of each block: the nodes of the slots at its end
	ahead     map[int][]int     // of each place at which a block will begin: the blocks that lead to it
	begun     map[int]beginning // of each place at which a block began
}

func newBuilder(p api.Program, fn, pc int, ints []int) *builder {
	f := &p[fn]
	b := &builder{p: p, fn: f, lay: layOf(f, pc), ints: make([]bool, len(f.Code)), templates: newTemplates(), ahead: map[int][]int{}, begun: map[int]beginning{}}
	for _, at := range ints {
		if at >= 0 && at < len(b.ints) {
			b.ints[at] = true
		}
	}
	b.graph = api.Graph{Fn: fn, Pc: pc, Slots: f.Locals} // wherever a graph may begin the stack is empty
	return b
}

// build: false, if more would be needed than there may be.
func (b *builder) build() bool {
	b.enter()
	for pc, i := range b.fn.Code {
		if !b.lay.led[pc] {
			continue
		}
		b.pc = pc
		if b.lay.begins[pc] {
			b.begin()
		}
		b.templates[i.Op](b, i.A)
		if len(b.graph.Blocks) > mostBlocks || len(b.graph.Nodes) > mostNodes {
			return false
		}
	}
	return true
}

// put: a node at the end of the block.
func (b *builder) put(x api.Node) int {
	n := len(b.graph.Nodes)
	b.graph.Nodes = append(b.graph.Nodes, x)
	k := b.block()
	k.Nodes = append(k.Nodes, n)
	return n
}

// sure: a node that neither falls nor asks for words, so that its frame need not be told.
func (b *builder) sure(op api.NodeOp, kind api.Kind, n int64) int {
	return b.put(api.Node{Op: op, Kind: kind, N: n, State: none})
}

// told: a node whose frame is told by a state of its own.
func (b *builder) told(op api.NodeOp, n int, args ...int) int {
	return b.put(api.Node{Op: op, Args: args, N: int64(n), State: b.state()})
}

// ofLast: likewise, of so many of the last values, which are taken.
func (b *builder) ofLast(op api.NodeOp, n, many int) int {
	node := b.told(op, n, copied(b.slots[len(b.slots)-many:])...)
	b.drop(many)
	return node
}

// state: the frame ahead of what the place's instruction takes.
func (b *builder) state() int {
	n := len(b.graph.States)
	b.graph.States = append(b.graph.States, api.State{Pc: b.pc, Slots: copied(b.slots)})
	return n
}

func (b *builder) push(node int) { b.slots = append(b.slots, node) }

func (b *builder) drop(many int) { b.slots = b.slots[:len(b.slots)-many] }

// last: the last value.
func (b *builder) last() int { return b.slots[len(b.slots)-1] }

// constant: a number is sure, a text asks for words.
func (b *builder) constant(a int) int {
	if c := b.fn.Consts[a]; c.Kind == api.Int {
		return b.sure(api.NoValue, api.Int, c.N)
	}
	return b.told(api.NoConst, a)
}

// bin: what stands for an operation at the place, of that number.
func (b *builder) bin(a int) api.NodeOp {
	if b.ints[b.pc] && a != int(api.Same) && a != int(api.Unlike) {
		return api.NoIntBin
	}
	return api.NoBin
}

// ownCells: the nodes of the cells that a function that is made here is closed over.
func (b *builder) ownCells(made int) []int {
	var l []int
	for _, c := range b.p[made].Caps {
		if !c.Up {
			l = append(l, b.slots[c.N])
		}
	}
	return l
}

func copied(l []int) []int {
	other := make([]int, len(l))
	copy(other, l)
	return other
}
