package samples

import (
	"slices"

	"gearbox/api"
)

// blocks: of a graph that may be, without nodes; what ends take, and what states they have, is not told yet.
func blocks(d *Dice) []api.Block {
	l := make([]api.Block, 1)
	most := 1 + d.Below(9)
	for b := 0; b < len(l); b++ {
		l[b].State = -1
		switch d.Below(12) {
		case 0:
			l[b].End = api.BkReturn
		case 1:
			l[b].End = api.BkThrow
		case 2, 3, 4:
			if b > 0 {
				l[b].End, l[b].Next = api.BkLoop, []int{1 + d.Below(b)}
			}
		case 5, 6, 7, 8, 9:
			l = leads(d, l, b, most, api.BkUnless, 2)
		}
		if l[b].End == api.BkNone {
			l = leads(d, l, b, most, api.BkJump, 1)
		}
		if l[b].End == api.BkNone {
			l[b].End = api.BkReturn
		}
	}
	for b := range l {
		for _, to := range l[b].Next {
			l[to].Ahead = append(l[to].Ahead, b)
		}
	}
	return l
}

// leads: a block leads to so many with greater numbers: new ones, as long as there may be some, or others; if it can, it ends so.
func leads(d *Dice, l []api.Block, b, most int, end api.EndOp, many int) []api.Block {
	var next []int
	blocks := len(l) // with the new ones
	for range many {
		to := blocks
		if others := len(l) - b - 1; others > 0 && (blocks >= most || d.Below(3) == 0) {
			to = b + 1 + d.Below(others)
		}
		if to >= most || slices.Contains(next, to) {
			return l
		}
		next, blocks = append(next, to), max(blocks, to+1)
	}
	l = append(l, make([]api.Block, blocks-len(l))...)
	l[b].End, l[b].Next = end, next
	return l
}

// above: of each block those that stand on each way to it, itself not, as the document says it: ways that do without one are looked for.
func above(l []api.Block) [][]int {
	above := make([][]int, len(l))
	for a := range l {
		reached := make([]bool, len(l))
		for todo := []int{0}; len(todo) > 0; {
			b := todo[len(todo)-1]
			todo = todo[:len(todo)-1]
			if b != a && !reached[b] {
				reached[b] = true
				todo = append(todo, l[b].Next...)
			}
		}
		for b := range l {
			if b != a && !reached[b] {
				above[b] = append(above[b], a)
			}
		}
	}
	return above
}
