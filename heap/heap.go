// Package heap is layer 1: words in an arena. See doc/01-heap.md.
package heap

import (
	"slices"

	"gearbox/api"
)

// Heap is an arena of words. See doc/01-heap.md.
//
// The arena stands behind a pointer so that a copy of a Heap cannot fall out of step with the words that it shares with the first one.
type Heap struct{ arena *arena }

// New: of so many words, none of them in use. (P1.1)
func New(words int) (*Heap, api.Errno) {
	if words < 1 || words > api.MaxWords {
		return nil, api.ErrArg
	}
	return &Heap{newArena(words)}, api.OK
}

// Alloc: an object of a kind, with so many words behind its head, all 0: its place. (P1.2)
func (h *Heap) Alloc(k api.Kind, size int) (int64, api.Errno) {
	a := h.there()
	switch {
	case a == nil:
		return 0, api.ErrNil
	case k < api.Text || k > api.Items || size < 0:
		return 0, api.ErrArg
	case size >= a.free():
		return 0, api.ErrFull
	}
	return a.add(k, size), api.OK
}

// Kind: of the object at a place; Size: how many words it has behind its head. (P1.3)
func (h *Heap) Kind(at int64) (api.Kind, api.Errno) {
	a, e := h.find(at)
	if e != api.OK {
		return 0, e
	}
	return api.Kind(a.field(at, kindField)), api.OK
}

// Size: likewise.
func (h *Heap) Size(at int64) (int, api.Errno) {
	a, e := h.find(at)
	if e != api.OK {
		return 0, e
	}
	return int(a.field(at, sizeField)), api.OK
}

// Read: a word of an object; Write: it is another one. (P1.4)
func (h *Heap) Read(at int64, i int) (uint64, api.Errno) {
	p, e := h.word(at, i)
	if e != api.OK {
		return 0, e
	}
	return *p, api.OK
}

// Write: likewise.
func (h *Heap) Write(at int64, i int, w uint64) api.Errno {
	p, e := h.word(at, i)
	if e != api.OK {
		return e
	}
	*p = w
	return api.OK
}

// Used: how many words are in use; Words: how many there are. (P1.5)
func (h *Heap) Used() int {
	a := h.there()
	if a == nil {
		return 0
	}
	return int(a.end())
}

// Words: likewise.
func (h *Heap) Words() int {
	a := h.there()
	if a == nil {
		return 0
	}
	return a.limit
}

// Places: of all objects, rising. (P1.5)
func (h *Heap) Places() []int64 {
	a := h.there()
	if a == nil {
		return nil
	}
	var l []int64
	for at := range a.back(a.last) {
		l = append(l, at)
	}
	slices.Reverse(l)
	return l
}

// Move: an object stands at another place, which nothing else is between; Cut: what stands from a place on is in use no more. (P1.6)
func (h *Heap) Move(from, to int64) api.Errno {
	a, e := h.find(from)
	if e != api.OK {
		return e
	}
	if to < 0 || to > from {
		return api.ErrArg
	}
	stays := a.lastAhead(from, to)
	if a.endOf(stays) > to {
		return api.ErrArg
	}
	a.move(stays, from, to)
	return api.OK
}

// Cut: likewise.
func (h *Heap) Cut(at int64) api.Errno {
	a := h.there()
	if a == nil {
		return api.ErrNil
	}
	if at < 0 || at > a.end() {
		return api.ErrArg
	}
	stays := a.lastAhead(a.last, at)
	if a.endOf(stays) > at {
		return api.ErrArg
	}
	a.cut(stays, at)
	return api.OK
}

// there: the arena; nil of a heap that New did not make.
func (h *Heap) there() *arena {
	if h == nil {
		return nil
	}
	return h.arena
}

// find: the arena, if an object begins at that place of it.
func (h *Heap) find(at int64) (*arena, api.Errno) {
	a := h.there()
	if a == nil {
		return nil, api.ErrNil
	}
	if !a.has(at) {
		return nil, api.ErrArg
	}
	return a, api.OK
}

// word: where an object's word i stands.
func (h *Heap) word(at int64, i int) (*uint64, api.Errno) {
	a, e := h.find(at)
	if e != api.OK {
		return nil, e
	}
	if i < 0 || int64(i) >= a.field(at, sizeField) {
		return nil, api.ErrArg
	}
	return &a.words[at+1+int64(i)], api.OK
}
