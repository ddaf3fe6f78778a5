package graph

import (
	"math"

	"gearbox/api"
	"gearbox/shapes"
)

// stands tells where the nodes of a graph stand.
type stands struct {
	block []int // of each node
	place []int // of each node: which one it is of the nodes of all blocks
}

func newStands(many int) stands {
	s := stands{block: make([]int, many), place: make([]int, many)}
	for n := range many {
		s.block[n] = none
	}
	return s
}

// fill: does each node stand in just one block, once?
func (s stands) fill(blocks []api.Block) bool {
	filled := 0
	for b, n := range nodes(blocks) {
		if !shapes.Within(n, len(s.block)) || s.block[n] != none {
			return false
		}
		s.block[n], s.place[n] = b, filled
		filled++
	}
	return filled == len(s.block)
}

// end is the place behind all nodes of a block.
const end = math.MaxInt

// uses holds each use of a graph's nodes against where they stand.
type uses struct {
	graph  *api.Graph
	stands stands
	order  order
	told   []int // of each state: the last block at one of whose places all its slots were reached; so they are at each later place of it
}

func (u *uses) areReached() bool {
	for b, n := range nodes(u.graph.Blocks) {
		x := &u.graph.Nodes[n]
		if x.Op == api.NoPhi {
			if !u.phiReached(b, x) {
				return false
			}
		} else if !u.allReached(x.Args, b, u.stands.place[n]) || !u.stateReached(x.State, b, u.stands.place[n]) {
			return false
		}
	}
	for b := range u.graph.Blocks {
		x := &u.graph.Blocks[b]
		if !u.allReached(x.Args, b, end) || !u.stateReached(x.State, b, end) {
			return false
		}
	}
	return true
}

// reached: is a node told ahead of a place of a block?
func (u *uses) reached(n, b, place int) bool {
	if u.stands.block[n] == b {
		return u.stands.place[n] < place
	}
	return u.order.above(u.stands.block[n], b)
}

func (u *uses) allReached(l []int, b, place int) bool {
	for _, n := range l {
		if n != none && !u.reached(n, b, place) {
			return false
		}
	}
	return true
}

func (u *uses) stateReached(state, b, place int) bool {
	if state == none || u.told[state] == b {
		return true
	}
	u.told[state] = b
	return u.allReached(u.graph.States[state].Slots, b, place)
}

// phiReached: an arg of a phi is told where the block ahead ends that it is for.
func (u *uses) phiReached(b int, x *api.Node) bool {
	for k, n := range x.Args {
		if !u.reached(n, u.graph.Blocks[b].Ahead[k], end) {
			return false
		}
	}
	return true
}
