package graph

import (
	"slices"

	"gearbox/api"
)

// Above: for each block the blocks that each way to it goes through, itself too, rising. (P16.3)
func Above(g api.Graph) [][]int {
	l := make([][]int, len(g.Blocks))
	w := newWalk(g.Blocks)
	for at, over := range w.over() {
		b := w.blocks[at]
		if over == none {
			l[b] = []int{b}
		} else {
			l[b] = with(l[w.blocks[over]], b)
		}
	}
	for b := range l {
		if _, led := w.places[b]; !led {
			l[b] = first(len(l))
		}
	}
	return l
}

// with: these and one more, rising.
func with(l []int, n int) []int {
	at, _ := slices.BinarySearch(l, n)
	with := make([]int, 0, len(l)+1)
	with = append(append(with, l[:at]...), n)
	return append(with, l[at:]...)
}

// first: so many numbers from 0 on.
func first(many int) []int {
	l := make([]int, many)
	for n := range l {
		l[n] = n
	}
	return l
}

// order tells which blocks are above which: the blocks below one stand behind it, in one row.
type order struct {
	at     []int // of each block: where it stands
	behind []int // of each block: behind the last one that is below it
}

// orderOf: of a graph in which ways lead to all blocks.
func orderOf(blocks []api.Block) order {
	w := newWalk(blocks)
	over := w.over()
	many := make([]int, len(over)) // of each place: how many are below it, itself too
	for at := len(over) - 1; at >= 0; at-- {
		many[at]++
		if over[at] != none {
			many[over[at]] += many[at]
		}
	}
	o := order{at: make([]int, len(blocks)), behind: make([]int, len(blocks))}
	free := make([]int, len(over)) // of each place: where the next one may stand that is right below it
	for at, above := range over {
		stands := 0
		if above != none {
			stands = free[above]
			free[above] += many[at]
		}
		free[at] = stands + 1
		o.at[w.blocks[at]], o.behind[w.blocks[at]] = stands, stands+many[at]
	}
	return o
}

// above: does one block stand above the other, or is it that one?
func (o order) above(a, b int) bool { return o.at[a] <= o.at[b] && o.at[b] < o.behind[a] }
