package verify

import (
	"slices"

	"gearbox/api"
)

// depths: what each place of a function is told, whose head and instructions may be; the place of the first fault.
func depths(f *api.Fn) (told []int, fault int) {
	w := newWalk(len(f.Code))
	guards := guardsOf(f)
	w.tell(0, 0)
	fault = none
places:
	for pc := range w.waiting.taken {
		deep, ok := behind(f.Code[pc], w.told[pc])
		if !ok || guards.deepest(pc) > w.told[pc] {
			fault = pc
			break places
		}
		for _, n := range guards.news(pc) {
			if !w.tell(f.Handlers[n].At, f.Handlers[n].Deep+1) {
				fault = pc
				break places
			}
		}
		if !w.next(f.Code[pc], pc, deep) {
			fault = pc
			break places
		}
	}
	return w.told, fault
}

// walk is how far depths are told.
type walk struct {
	told    []int
	waiting places // those that were told a number and not taken
}

func newWalk(places int) *walk {
	return &walk{told: slices.Repeat([]int{none}, places), waiting: newPlaces(places)}
}

// tell: false, if the place was told another number ahead.
func (w *walk) tell(pc, deep int) bool {
	if w.told[pc] == none {
		w.told[pc] = deep
		w.waiting.add(pc)
	}
	return w.told[pc] == deep
}

// next: the places next to one are told, the one behind it first; false, if one of them was told another number ahead.
func (w *walk) next(ins api.Ins, pc, deep int) bool {
	row, _ := rowOf(ins.Op)
	if !row.ends && !w.tell(pc+1, deep) {
		return false
	}
	named := row.number == placeAbove || row.number == placeBack
	return !named || w.tell(ins.A, deep)
}

// guards are the handlers of a function as a tree over its places: those that guard a place stand in the knots between its leaf and the root. So a place is not held against all of them.
type guards []knot

// knot of the tree: the first one that is used is the root, number 1; those below number n are 2 n and 2 n + 1; the leaves are the second half.
type knot struct {
	deepest  int   // the greatest Deep of its handlers, and of those of the knots between it and the root
	handlers []int // the numbers of those that were not asked for yet
}

// guardsOf: nil, if there are no handlers.
func guardsOf(f *api.Fn) guards {
	if len(f.Handlers) == 0 {
		return nil
	}
	leaf := len(f.Code)
	g := make(guards, 2*leaf)
	for n, h := range f.Handlers {
		for from, to := leaf+h.From, leaf+h.To; from < to; from, to = from/2, to/2 {
			if from%2 == 1 {
				g[from].add(n, h.Deep)
				from++
			}
			if to%2 == 1 {
				to--
				g[to].add(n, h.Deep)
			}
		}
	}
	for n := 2; n < len(g); n++ {
		g[n].deepest = max(g[n].deepest, g[n/2].deepest)
	}
	return g
}

func (k *knot) add(handler, deep int) {
	k.deepest = max(k.deepest, deep)
	k.handlers = append(k.handlers, handler)
}

// deepest: the greatest Deep of the handlers that guard a place; 0, if none does.
func (g guards) deepest(pc int) int {
	if g == nil {
		return 0
	}
	return g[len(g)/2+pc].deepest
}

// news: the handlers that guard a place, but for those that were answered already: what they tell has been told.
func (g guards) news(pc int) []int {
	if g == nil {
		return nil
	}
	var l []int
	for n := len(g)/2 + pc; n > 0; n /= 2 {
		l = append(l, g[n].handlers...)
		g[n].handlers = nil
	}
	return l
}
