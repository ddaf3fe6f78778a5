package graph

import (
	"slices"

	"gearbox/api"
	"gearbox/shapes"
)

// checker holds a graph against the function of which it may be one.
type checker struct {
	fn    *shapes.Function
	graph api.Graph
	rows  rows
	ends  endRows
}

func newChecker(p api.Program, depths []int, g api.Graph) *checker {
	return &checker{fn: shapes.Of(p, g.Fn, depths), graph: g, rows: newRows(g.Slots), ends: newEndRows()}
}

func (c *checker) mayBe() bool {
	slots, ok := c.fn.Slots(c.graph.Pc)
	if !ok || c.graph.Slots != slots || len(c.graph.Blocks) == 0 || !c.waysMayBe() || !c.statesMayBe() {
		return false
	}
	s := newStands(len(c.graph.Nodes))
	if !s.fill(c.graph.Blocks) || !c.nodesMayBe() {
		return false
	}
	u := uses{graph: &c.graph, stands: s, order: orderOf(c.graph.Blocks), told: slices.Repeat([]int{none}, len(c.graph.States))}
	return u.areReached()
}

func (c *checker) isNode(n int) bool { return shapes.Within(n, len(c.graph.Nodes)) }

func (c *checker) areNodes(l []int) bool {
	return !slices.ContainsFunc(l, func(n int) bool { return !c.isNode(n) })
}

// hasState: is it the number of a state, where there is to be one, and of none, where not?
func (c *checker) hasState(n int, wanted bool) bool {
	if wanted {
		return shapes.Within(n, len(c.graph.States))
	}
	return n == none
}

// waysMayBe: ends, and which blocks are ahead of which.
func (c *checker) waysMayBe() bool {
	blocks := c.graph.Blocks
	ahead := make([][]int, len(blocks))
	for b := range blocks {
		if !c.endMayBe(b) {
			return false
		}
		for _, to := range blocks[b].Next {
			ahead[to] = append(ahead[to], b)
		}
	}
	for b := range blocks {
		if !slices.Equal(blocks[b].Ahead, ahead[b]) || b > 0 && (len(ahead[b]) == 0 || ahead[b][0] >= b) {
			return false
		}
	}
	return true
}

func (c *checker) endMayBe(b int) bool {
	x := &c.graph.Blocks[b]
	if x.End == api.BkNone || int(x.End) >= len(c.ends) {
		return false
	}
	r := c.ends[x.End]
	if len(x.Args) != r.args || !c.areNodes(x.Args) || len(x.Next) != r.next || !c.hasState(x.State, r.state) {
		return false
	}
	for _, to := range x.Next {
		if !shapes.Within(to, len(c.graph.Blocks)) || !r.leads(b, to) {
			return false
		}
	}
	return len(x.Next) < 2 || x.Next[0] != x.Next[1]
}

func (c *checker) statesMayBe() bool {
	for _, s := range c.graph.States {
		slots, ok := c.fn.Slots(s.Pc)
		if !ok || len(s.Slots) != slots || slices.ContainsFunc(s.Slots, func(n int) bool { return n != none && !c.isNode(n) }) {
			return false
		}
	}
	return true
}

// nodesMayBe: of nodes that stand in blocks.
func (c *checker) nodesMayBe() bool {
	entered := make([]bool, c.graph.Slots) // is there a NoSlot of it already?
	others := none                         // the last block in which something else than phis stands
	for b, n := range nodes(c.graph.Blocks) {
		x := &c.graph.Nodes[n]
		if !c.nodeMayBe(x) {
			return false
		}
		if x.Op != api.NoPhi {
			others = b
		} else if b == 0 || others == b || len(x.Args) != len(c.graph.Blocks[b].Ahead) {
			return false
		}
		if x.Op == api.NoSlot {
			if b != 0 || entered[x.N] {
				return false
			}
			entered[x.N] = true
		}
	}
	return true
}

// nodeMayBe: is a node one of the rows?
func (c *checker) nodeMayBe(x *api.Node) bool {
	if int(x.Op) >= len(c.rows) || c.rows[x.Op].shape == nil {
		return false
	}
	r := &c.rows[x.Op]
	if !c.areNodes(x.Args) || !c.hasState(x.State, r.state) {
		return false
	}
	part := shapes.Part{Args: len(x.Args), N: x.N, Kind: x.Kind}
	if r.state {
		part.Pc = c.graph.States[x.State].Pc
	}
	return r.shape(c.fn, part)
}
