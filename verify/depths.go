package verify

import (
	"container/heap"
	"slices"

	"gearbox/api"
)

// depths: what each place of a function is told, whose head and instructions may be; the place of the first fault.
func depths(f *api.Fn) (told []int, fault int) {
	w := walk{told: slices.Repeat([]int{none}, len(f.Code))}
	guards := guardsOf(f)
	w.tell(0, 0)
	fault = none
places:
	for len(w.waiting) > 0 {
		pc := w.take()
		deep, ok := behind(f.Code[pc], w.told[pc])
		if !ok || guards.deepest(pc) > w.told[pc] {
			fault = pc
			break places
		}
		for _, n := range guards.news(pc) {
			if !w.tell(f.Handlers[n].At, f.Handlers[n].Deep+1) {
				fault = pc
				break places
			}
		}
		for _, place := range next(f.Code, pc) {
			if !w.tell(place, deep) {
				fault = pc
				break places
			}
		}
	}
	return w.told, fault
}

// walk is how far depths are told.
type walk struct {
	told    []int
	waiting places // those that were told a number and not taken
}

// tell: false, if the place was told another number ahead.
func (w *walk) tell(pc, deep int) bool {
	if w.told[pc] == none {
		w.told[pc] = deep
		heap.Push(&w.waiting, pc)
	}
	return w.told[pc] == deep
}

// take: the least place that waits.
func (w *walk) take() int { return heap.Pop(&w.waiting).(int) }

// places are a heap, so that code that goes back to many places is not gone through as many times.
type places []int

func (l places) Len() int           { return len(l) }
func (l places) Less(i, j int) bool { return l[i] < l[j] }
func (l places) Swap(i, j int)      { l[i], l[j] = l[j], l[i] }
func (l *places) Push(x any)        { *l = append(*l, x.(int)) }

func (l *places) Pop() any {
	last := len(*l) - 1
	pc := (*l)[last]
	*l = (*l)[:last]
	return pc
}

// guards are the handlers of a function as a tree over its places: those that guard a place stand in the knots between its leaf and the root. So a place is not held against all of them.
type guards []knot

// knot of the tree: the first one that is used is the root, number 1; those below number n are 2 n and 2 n + 1; the leaves are the second half.
type knot struct {
	deepest  int
	handlers []int // the numbers of those that were not asked for yet
}

func guardsOf(f *api.Fn) guards {
	leaf := len(f.Code)
	g := make(guards, 2*leaf)
	for n, h := range f.Handlers {
		for from, to := leaf+h.From, leaf+h.To; from < to; from, to = from/2, to/2 {
			if from%2 == 1 {
				g[from].add(n, h.Deep)
				from++
			}
			if to%2 == 1 {
				to--
				g[to].add(n, h.Deep)
			}
		}
	}
	return g
}

func (k *knot) add(handler, deep int) {
	k.deepest = max(k.deepest, deep)
	k.handlers = append(k.handlers, handler)
}

// deepest: the greatest Deep of the handlers that guard a place; 0, if none does.
func (g guards) deepest(pc int) int {
	deep := 0
	for n := len(g)/2 + pc; n > 0; n /= 2 {
		deep = max(deep, g[n].deepest)
	}
	return deep
}

// news: the handlers that guard a place, but for those that were answered already: what they tell has been told.
func (g guards) news(pc int) []int {
	var l []int
	for n := len(g)/2 + pc; n > 0; n /= 2 {
		l = append(l, g[n].handlers...)
		g[n].handlers = nil
	}
	return l
}
