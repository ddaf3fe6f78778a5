package gc

import (
	"gearbox/api"
	"gearbox/heap"
)

// link is a word of an object that leads to another object.
type link struct {
	word int
	to   int64
	more uint64 // what the word tells beyond the place: 1 where Items are held, since 0 says there that there are none
}

// holder is an object that may hold others. Its links are gone through by a method, for which nothing has to be made anew at each object.
type holder struct {
	heap *heap.Heap
	at   int64
}

// holds: what leads from the object at a place to others.
func holds(h *heap.Heap, at int64) holder { return holder{h, at} }

// links goes to all of them.
func (o holder) links(yield func(link) bool) {
	kind, _ := o.heap.Kind(o.at)
	size, _ := o.heap.Size(o.at)
	switch kind {
	case api.List, api.Map:
		o.items(yield)
	case api.Items:
		o.pairs(0, size, yield)
	case api.Func:
		o.pairs(1, size, yield)
	case api.Cell:
		o.pairs(0, min(size, 2), yield)
	}
}

// items: the link from a List or a Map to its Items.
func (o holder) items(yield func(link) bool) {
	w, e := o.heap.Read(o.at, 1)
	if e != api.OK || w == 0 {
		return
	}
	place := int64(w - 1)
	if k, e := o.heap.Kind(place); e == api.OK && k == api.Items {
		yield(link{1, place, 1})
	}
}

// pairs: the links of the values that are held, two words each, from a word on, ahead of another one.
func (o holder) pairs(from, to int, yield func(link) bool) {
	for i := from; i+1 < to; i += 2 {
		v := held(o.heap, o.at, i)
		if leads(o.heap, v) && !yield(link{i + 1, v.N, 0}) {
			return
		}
	}
}

// held: the value in a word and the next one; nil, if the first is no kind's number.
func held(h *heap.Heap, at int64, i int) api.Val {
	k, _ := h.Read(at, i)
	if k > uint64(api.Cell) { // ahead of the conversion, which keeps the lowest bits alone
		return api.Val{}
	}
	n, _ := h.Read(at, i+1)
	return api.Val{Kind: api.Kind(k), N: int64(n)}
}

// leads: does a value lead to an object?
func leads(h *heap.Heap, v api.Val) bool {
	if !tellsObject(v.Kind) {
		return false
	}
	k, e := h.Kind(v.N)
	return e == api.OK && k == v.Kind
}

// tellsObject: is N the place of an object, in values of that kind?
func tellsObject(k api.Kind) bool { return k >= api.Text && k <= api.Cell }
