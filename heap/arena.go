package heap

import (
	"iter"

	"gearbox/api"
)

// The fields of a head, from its lowest bits on. Beside kind and size it tells which objects begin next to its own, so that Move need not search the words that nothing has.
const (
	sizeField   = iota
	aheadField  // the place of the object ahead, and one; 0: none
	behindField // the place of the object behind; 0: none, since none is behind another one there
	kindField
)

// A field has room for every place of a heap of MaxWords words; the last one has the 4 bits that are left, enough for a kind.
const (
	fieldBits = 20
	fieldMask = 1<<fieldBits - 1
)

// none stands where a place is told and there is no object.
const none int64 = -1

// arena is the words of a heap. It keeps those in use alone: a great heap of which little is used stays small.
type arena struct {
	limit  int
	words  []uint64
	begins []bool // of each word in use: is it a head? A word itself can't tell, since any number may be written to one
	last   int64  // where the last object begins, or none
}

func newArena(limit int) *arena { return &arena{limit: limit, last: none} }

// end: the number of the first word that is not in use.
func (a *arena) end() int64 { return int64(len(a.words)) }

// free: how many words are not in use.
func (a *arena) free() int { return a.limit - len(a.words) }

// has: does an object begin at that place?
func (a *arena) has(at int64) bool {
	return at >= 0 && at < a.end() && a.begins[at]
}

// field: what the head at a place tells.
func (a *arena) field(at int64, f int) int64 {
	return int64(a.words[at] >> (f * fieldBits) & fieldMask)
}

// setField: the head at a place tells n.
func (a *arena) setField(at int64, f int, n int64) {
	shift := f * fieldBits
	a.words[at] = a.words[at]&^(fieldMask<<shift) | uint64(n)<<shift
}

// ahead: the object ahead of that at a place, or none.
func (a *arena) ahead(at int64) int64 { return a.field(at, aheadField) - 1 }

// behind: the object behind that at a place, or none.
func (a *arena) behind(at int64) int64 {
	if n := a.field(at, behindField); n > 0 {
		return n
	}
	return none
}

// tie: x and y are neighbours; where x is none y is the first object, where y is none x is the last one.
func (a *arena) tie(x, y int64) {
	if x != none {
		a.setField(x, behindField, max(y, 0))
	}
	if y != none {
		a.setField(y, aheadField, x+1)
	} else {
		a.last = x
	}
}

// back: the places of the objects from one on towards the first; of none: none.
func (a *arena) back(at int64) iter.Seq[int64] {
	return func(yield func(int64) bool) {
		for x := at; x != none && yield(x); {
			x = a.ahead(x)
		}
	}
}

// lastAhead: the first object, from that at a place back, that begins ahead of another place; or none.
func (a *arena) lastAhead(at, place int64) int64 {
	for x := range a.back(at) {
		if x < place {
			return x
		}
	}
	return none
}

// endOf: the place right behind the object at a place; behind none: 0.
func (a *arena) endOf(at int64) int64 {
	if at == none {
		return 0
	}
	return at + 1 + a.field(at, sizeField)
}

// add: a new object at the end, its words 0.
func (a *arena) add(k api.Kind, size int) int64 {
	at := a.end()
	a.words = append(a.words, make([]uint64, size+1)...)
	a.begins = append(a.begins, make([]bool, size+1)...)
	a.begins[at] = true
	a.setField(at, sizeField, int64(size))
	a.setField(at, kindField, int64(k))
	a.tie(a.last, at)
	a.tie(at, none)
	return at
}

// move: the object at from begins at to, right behind the object stays; those between them are there no more.
func (a *arena) move(stays, from, to int64) {
	next := a.behind(from)
	a.drop(from, stays)
	copy(a.words[to:], a.words[from:a.endOf(from)])
	a.begins[to] = true
	a.tie(stays, to)
	a.tie(to, next)
}

// cut: the end is at, and stays is the last object.
func (a *arena) cut(stays, at int64) {
	a.tie(stays, none)
	a.words = a.words[:at]
	a.begins = a.begins[:at]
}

// drop: nothing begins any more at the places of the objects from one on, back to stays.
func (a *arena) drop(at, stays int64) {
	for x := range a.back(at) {
		if x == stays {
			return
		}
		a.begins[x] = false
	}
}
