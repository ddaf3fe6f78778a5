package graph

import (
	"slices"

	"gearbox/api"
	"gearbox/shapes"
)

// none is the number of what is not there.
const none = -1

// walk is the blocks of a graph that ways from the block 0 lead to, in the order in which they are come to if each way is gone as far as it goes, ahead of another one. A block has its place in this order; all that is told of it is told by places.
type walk struct {
	blocks []int       // at each place
	places map[int]int // of these blocks alone
	from   []int       // from which place each was come to
	ahead  [][]int     // the places of all that lead to it
}

// step leads to a block, from a place.
type step struct{ block, from int }

func newWalk(blocks []api.Block) *walk {
	w := &walk{places: map[int]int{}}
	if len(blocks) == 0 {
		return w
	}
	for todo := []step{{0, none}}; len(todo) > 0; {
		s := todo[len(todo)-1]
		todo = todo[:len(todo)-1]
		if w.comes(s) {
			for _, b := range slices.Backward(blocks[s.block].Next) {
				if shapes.Within(b, len(blocks)) {
					todo = append(todo, step{b, w.places[s.block]})
				}
			}
		}
	}
	return w
}

// comes: is a step the first one to its block?
func (w *walk) comes(s step) bool {
	at, seen := w.places[s.block]
	if !seen {
		at = len(w.blocks)
		w.places[s.block] = at
		w.blocks, w.from, w.ahead = append(w.blocks, s.block), append(w.from, s.from), append(w.ahead, nil)
	}
	if s.from != none {
		w.ahead[at] = append(w.ahead[at], s.from)
	}
	return !seen
}
