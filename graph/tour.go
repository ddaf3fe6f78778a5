package graph

import (
	"iter"

	"gearbox/api"
)

// nodes goes to the nodes of all blocks, in order, each with the number of its block.
func nodes(blocks []api.Block) iter.Seq2[int, int] {
	return func(yield func(block, node int) bool) {
		for b := range blocks {
			for _, n := range blocks[b].Nodes {
				if !yield(b, n) {
					return
				}
			}
		}
	}
}
