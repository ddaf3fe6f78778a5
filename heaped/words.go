package heaped

import (
	"gearbox/api"
	"gearbox/heap"
)

// Some words are read here one by one, as chapter 3 tells them: object would tell all cells of a Func whenever one of them is asked for, and all values of a List of which a text shows few.

// held: the value that an object holds in a word and the next one.
func held(h *heap.Heap, at int64, word int) api.Val {
	k, _ := h.Read(at, word)
	n, _ := h.Read(at, word+1)
	return api.Val{Kind: api.Kind(k), N: int64(n)}
}

// number: the first word of an object: of a Func its function, of a List or a Map how many values it has.
func number(h *heap.Heap, v api.Val) int {
	n, _ := h.Read(v.N, 0)
	return int(n)
}

// item: the i-th value of a List or a Map that has so many.
func item(h *heap.Heap, v api.Val, i int) api.Val {
	in, _ := h.Read(v.N, 1)
	return held(h, int64(in)-1, 2*i)
}

// Which: the function that a Func is of.
func (g *Ground) Which(fn api.Val) int { return number(g.heap, fn) }

// CellOf: the n-th cell that a Func is over.
func (g *Ground) CellOf(fn api.Val, n int) api.Val { return held(g.heap, fn.N, 1+2*n) }
