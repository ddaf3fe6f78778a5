package gc

import (
	"iter"

	"gearbox/api"
	"gearbox/heap"
)

// link is a word of an object that leads to another object.
type link struct {
	word int
	to   int64
	more uint64 // what the word tells beyond the place: 1 where Items are held, since 0 says there that there are none
}

// holds: the links of the object at a place.
func holds(h *heap.Heap, at int64) iter.Seq[link] {
	kind, _ := h.Kind(at)
	size, _ := h.Size(at)
	switch kind {
	case api.List, api.Map:
		return items(h, at)
	case api.Items:
		return pairs(h, at, 0, size)
	case api.Func:
		return pairs(h, at, 1, size)
	case api.Cell:
		return pairs(h, at, 0, min(size, 2))
	}
	return func(func(link) bool) {}
}

// items: the link from a List or a Map to its Items.
func items(h *heap.Heap, at int64) iter.Seq[link] {
	return func(yield func(link) bool) {
		w, e := h.Read(at, 1)
		if e != api.OK || w == 0 {
			return
		}
		place := int64(w - 1)
		if k, e := h.Kind(place); e == api.OK && k == api.Items {
			yield(link{1, place, 1})
		}
	}
}

// pairs: the links of the values that are held, two words each, from a word on, ahead of another one.
func pairs(h *heap.Heap, at int64, from, to int) iter.Seq[link] {
	return func(yield func(link) bool) {
		for i := from; i+1 < to; i += 2 {
			v := held(h, at, i)
			if leads(h, v) && !yield(link{i + 1, v.N, 0}) {
				return
			}
		}
	}
}

// held: the value in a word and the next one; nil, if the first is no kind's number.
func held(h *heap.Heap, at int64, i int) api.Val {
	k, _ := h.Read(at, i)
	if k > uint64(api.Cell) { // ahead of the conversion, which keeps the lowest bits alone
		return api.Val{}
	}
	n, _ := h.Read(at, i+1)
	return api.Val{Kind: api.Kind(k), N: int64(n)}
}

// leads: does a value lead to an object?
func leads(h *heap.Heap, v api.Val) bool {
	if !tellsObject(v.Kind) {
		return false
	}
	k, e := h.Kind(v.N)
	return e == api.OK && k == v.Kind
}

// tellsObject: is N the place of an object, in values of that kind?
func tellsObject(k api.Kind) bool { return k >= api.Text && k <= api.Cell }
