package build

import "gearbox/api"

// beginning is a block that began at a place.
type beginning struct {
	block int
	phis  []int // the slots for which its first nodes stand
}

// block: the one that is built.
func (b *builder) block() *api.Block { return &b.graph.Blocks[len(b.graph.Blocks)-1] }

// enter: the block 0, that is come into.
func (b *builder) enter() {
	b.follow(nil)
	for k := range b.graph.Slots {
		b.push(b.sure(api.NoSlot, api.Nil, int64(k)))
	}
}

// follow: a new block, behind those that are ahead of it.
func (b *builder) follow(ahead []int) int {
	n := len(b.graph.Blocks)
	b.graph.Blocks = append(b.graph.Blocks, api.Block{State: none})
	b.outs = append(b.outs, nil)
	for _, from := range ahead {
		b.tie(from, n)
	}
	return n
}

// tie: one block leads to another one.
func (b *builder) tie(from, to int) {
	f, t := &b.graph.Blocks[from], &b.graph.Blocks[to]
	f.Next = append(f.Next, to)
	t.Ahead = append(t.Ahead, from)
}

// begin: a block at the place, where the one that is built ends, if it has not ended.
func (b *builder) begin() {
	if b.block().End == api.BkNone {
		b.end(api.BkJump, none, nil, b.pc)
	}
	ahead := b.ahead[b.pc]
	x := beginning{block: b.follow(ahead)}
	b.slots = copied(b.outs[ahead[0]])
	for k := range b.slots {
		if b.parts(k, ahead) {
			b.slots[k] = b.phi(k, ahead)
			x.phis = append(x.phis, k)
		}
	}
	b.begun[b.pc] = x
}

// parts: may a slot hold one thing on one way to the place, and another one on another? What a loop will bring along is not known yet: so each local that is written anywhere may.
func (b *builder) parts(slot int, ahead []int) bool {
	if b.lay.turned[b.pc] && b.lay.written[slot] {
		return true
	}
	for _, from := range ahead {
		if b.outs[from][slot] != b.slots[slot] {
			return true
		}
	}
	return false
}

// phi: of what a slot holds at the ends of these blocks.
func (b *builder) phi(slot int, ahead []int) int {
	args := make([]int, len(ahead))
	for k, from := range ahead {
		args[k] = b.outs[from][slot]
	}
	return b.put(api.Node{Op: api.NoPhi, Args: args, State: none})
}

// end: the block that is built has all its nodes, and goes on at these places.
func (b *builder) end(end api.EndOp, state int, args []int, places ...int) {
	n := len(b.graph.Blocks) - 1
	x := b.block()
	x.End, x.State, x.Args = end, state, args
	b.outs[n] = b.slots
	for _, pc := range places {
		b.ahead[pc] = append(b.ahead[pc], n)
	}
}

// jump: the block ends, but where nothing else leads to the place, and nothing stands in between.
func (b *builder) jump(pc int) {
	if b.lay.begins[pc] {
		b.end(api.BkJump, none, nil, pc)
	}
}

// loop: the block goes back, if it can: to a place that is come to by loops alone it falls.
func (b *builder) loop(pc int) {
	to, ok := b.begun[pc]
	if !ok {
		b.end(api.BkThrow, b.state(), []int{b.sure(api.NoValue, api.Nil, 0)})
		return
	}
	b.end(api.BkLoop, b.state(), nil)
	b.tie(len(b.graph.Blocks)-1, to.block)
	for k, slot := range to.phis {
		phi := &b.graph.Nodes[b.graph.Blocks[to.block].Nodes[k]]
		phi.Args = append(phi.Args, b.slots[slot])
	}
}

// unless: two ways, to two blocks; where they lead to one place, a block stands in between.
func (b *builder) unless(pc int) {
	state, args := b.state(), []int{b.last()}
	b.drop(1)
	if pc > b.pc+1 {
		b.end(api.BkUnless, state, args, b.pc+1, pc)
		return
	}
	b.end(api.BkUnless, state, args, pc)
	b.follow([]int{len(b.graph.Blocks) - 1})
	b.end(api.BkJump, none, nil, pc)
}
