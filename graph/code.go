package graph

import (
	"slices"

	"gearbox/api"
)

// code is a graph that may be, and what its frames ask of it.
type code struct {
	program api.Program
	fn      *api.Fn
	graph   api.Graph
	deeds   deeds
	ends    ends
	below   []int   // of each block: how many nodes stand in the blocks above it, itself not
	place   []int   // of each node: how many stand above it, and ahead of it in its block
	phis    []int   // of each block: how many it begins with
	ways    [][]way // of each block
}

// way leads from one block to another.
type way struct {
	to   int
	from int // the place of the first one among those ahead of the other
}

func newCode(p api.Program, g api.Graph) *code {
	c := &code{program: p, fn: &p[g.Fn], graph: g, deeds: newDeeds(), ends: newEnds(), below: make([]int, len(g.Blocks)), place: make([]int, len(g.Nodes)), phis: make([]int, len(g.Blocks)), ways: make([][]way, len(g.Blocks))}
	w := newWalk(g.Blocks)
	for at, over := range w.over() {
		if over != none {
			o := w.blocks[over]
			c.below[w.blocks[at]] = c.below[o] + len(g.Blocks[o].Nodes)
		}
	}
	stands := slices.Clone(c.below)
	for b, n := range nodes(g.Blocks) {
		c.place[n] = stands[b]
		stands[b]++
		if g.Nodes[n].Op == api.NoPhi {
			c.phis[b]++
		}
	}
	c.findWays()
	return c
}

func (c *code) findWays() {
	from := make([]int, len(c.graph.Blocks)) // of each block: how many ways to it were found
	for b := range c.graph.Blocks {
		for _, to := range c.graph.Blocks[b].Next {
			c.ways[b] = append(c.ways[b], way{to, from[to]})
			from[to]++
		}
	}
}
