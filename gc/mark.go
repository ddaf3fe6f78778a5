package gc

import (
	"gearbox/api"
	"gearbox/heap"
)

// marks are the objects that have been come to.
type marks struct {
	seen []bool  // of each word in use: does such an object begin there?
	todo []int64 // those of them whose links are still to be followed: a list, since objects may lie deeper in one another than calls should
}

// add: the object at a place has been come to.
func (m *marks) add(at int64) {
	if !m.seen[at] {
		m.seen[at] = true
		m.todo = append(m.todo, at)
	}
}

// next takes an object whose links are still to be followed; false: there is none.
func (m *marks) next() (int64, bool) {
	n := len(m.todo)
	if n == 0 {
		return 0, false
	}
	at := m.todo[n-1]
	m.todo = m.todo[:n-1]
	return at, true
}

// places: of all that have been come to, rising.
func (m *marks) places() []int64 {
	var l []int64
	for at, seen := range m.seen {
		if seen {
			l = append(l, int64(at))
		}
	}
	return l
}

// reached: the places of the objects that roots lead to, rising.
func reached(h *heap.Heap, roots []api.Val) []int64 {
	m := &marks{seen: make([]bool, h.Used())}
	for _, v := range roots {
		if leads(h, v) {
			m.add(v.N)
		}
	}
	for at, ok := m.next(); ok; at, ok = m.next() {
		for l := range holds(h, at).links {
			m.add(l.to)
		}
	}
	return m.places()
}

// taken: how many words the object at a place takes.
func taken(h *heap.Heap, at int64) int {
	size, _ := h.Size(at)
	return size + 1
}
