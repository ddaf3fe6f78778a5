package heap_test

import (
	"slices"
	"testing"

	"gearbox/api"
	"gearbox/heap"
)

// plainObj is an object of the model: what the chapter says of it, no more.
type plainObj struct {
	at    int64
	kind  api.Kind
	words []uint64
}

func (o plainObj) end() int64 { return o.at + 1 + int64(len(o.words)) }

// plain is the chapter's heap, word for word: a list of objects, an end.
type plain struct {
	limit int64
	end   int64
	objs  []plainObj
}

func (m *plain) find(at int64) int {
	return slices.IndexFunc(m.objs, func(o plainObj) bool { return o.at == at })
}

// within: does an object that begins ahead of a place have that word?
func (m *plain) within(at int64) bool {
	return slices.ContainsFunc(m.objs, func(o plainObj) bool { return o.at < at && at < o.end() })
}

func (m *plain) alloc(k api.Kind, size int) (int64, api.Errno) {
	if k < api.Text || k > api.Items || size < 0 {
		return 0, api.ErrArg
	}
	if m.limit-m.end < int64(size)+1 {
		return 0, api.ErrFull
	}
	o := plainObj{m.end, k, make([]uint64, size)}
	m.objs = append(m.objs, o)
	m.end = o.end()
	return o.at, api.OK
}

func (m *plain) write(at int64, i int, w uint64) api.Errno {
	k := m.find(at)
	if k < 0 || i < 0 || i >= len(m.objs[k].words) {
		return api.ErrArg
	}
	m.objs[k].words[i] = w
	return api.OK
}

func (m *plain) move(from, to int64) api.Errno {
	k := m.find(from)
	if k < 0 || to < 0 || to > from || m.within(to) {
		return api.ErrArg
	}
	m.objs[k].at = to
	keep := m.objs[k]
	m.objs = slices.DeleteFunc(m.objs, func(o plainObj) bool { return o.at >= to && o.at <= from })
	m.objs = append(m.objs, keep)
	slices.SortFunc(m.objs, func(a, b plainObj) int { return int(a.at - b.at) })
	return api.OK
}

func (m *plain) cut(at int64) api.Errno {
	if at < 0 || at > m.end || m.within(at) {
		return api.ErrArg
	}
	m.objs = slices.DeleteFunc(m.objs, func(o plainObj) bool { return o.at >= at })
	m.end = at
	return api.OK
}

// taken: how many words the objects take.
func (m *plain) taken() int64 {
	var n int64
	for _, o := range m.objs {
		n += o.end() - o.at
	}
	return n
}

// compare holds a heap against the model, at every place.
func compare(t *testing.T, h *heap.Heap, m *plain) {
	t.Helper()
	if int64(h.Used()) != m.end || int64(h.Words()) != m.limit {
		t.Fatalf("Used, Words = %d, %d, want %d, %d", h.Used(), h.Words(), m.end, m.limit)
	}
	var places []int64
	for _, o := range m.objs {
		places = append(places, o.at)
		if k, e := h.Kind(o.at); k != o.kind || e != api.OK {
			t.Fatalf("Kind(%d) = %d, %d, want %d", o.at, k, e, o.kind)
		}
		if l := wordsOf(t, h, o.at); !slices.Equal(l, o.words) {
			t.Fatalf("the words at %d: %v, want %v", o.at, l, o.words)
		}
	}
	if l := h.Places(); !slices.Equal(l, places) {
		t.Fatalf("Places = %v, want %v", l, places)
	}
	for at := int64(-1); at <= m.limit; at++ {
		if _, e := h.Size(at); (e == api.OK) != (m.find(at) >= 0) {
			t.Fatalf("Size(%d): %d", at, e)
		}
	}
}

// dice is a row of numbers that hangs on its start alone.
type dice uint64

func (d *dice) below(n int) int {
	*d = *d*6364136223846793005 + 1442695040888963407
	return int(uint64(*d) >> 33 % uint64(n))
}

// place is mostly an object's, sometimes one beside it.
func (d *dice) place(m *plain) int64 {
	if len(m.objs) == 0 || d.below(4) == 0 {
		return int64(d.below(int(m.limit)+3)) - 1
	}
	o := m.objs[d.below(len(m.objs))]
	if d.below(2) == 0 {
		return o.end()
	}
	return o.at
}

// P1.7: whatever is done, the heap is what the chapter says
func TestWhatFollows(t *testing.T) {
	for seed := range 300 {
		d := dice(seed)
		limit := 1 + d.below(40)
		h := newHeap(t, limit)
		m := &plain{limit: int64(limit)}
		steady := true
		for range 150 {
			switch d.below(8) {
			case 0, 1, 2:
				k, size := api.Kind(d.below(10)), d.below(6)-1
				at, e := h.Alloc(k, size)
				if wantAt, want := m.alloc(k, size); at != wantAt || e != want {
					t.Fatalf("Alloc(%d, %d) = %d, %d, want %d, %d", k, size, at, e, wantAt, want)
				}
			case 3, 4:
				at, i, w := d.place(m), d.below(6)-1, uint64(d.below(1<<31))<<33|1
				wantErr(t, "Write", h.Write(at, i, w), m.write(at, i, w))
			case 5, 6:
				from, to := d.place(m), d.place(m)
				wantErr(t, "Move", h.Move(from, to), m.move(from, to))
				steady = false
			case 7:
				at := d.place(m)
				wantErr(t, "Cut", h.Cut(at), m.cut(at))
				steady = false
			}
			compare(t, h, m)
			if steady && m.taken() != int64(h.Used()) {
				t.Fatalf("the end is %d, the objects take %d", h.Used(), m.taken())
			}
		}
	}
}

// P1.7: every row of three calls on small heaps
func TestAllShortRows(t *testing.T) {
	type call func(h *heap.Heap, m *plain) (api.Errno, api.Errno)
	var calls []call
	for size := range 3 {
		calls = append(calls, func(h *heap.Heap, m *plain) (api.Errno, api.Errno) {
			_, e := h.Alloc(api.Cell, size)
			_, want := m.alloc(api.Cell, size)
			return e, want
		})
	}
	for from := range int64(6) {
		calls = append(calls, func(h *heap.Heap, m *plain) (api.Errno, api.Errno) {
			return h.Cut(from), m.cut(from)
		})
		for to := range from + 1 {
			calls = append(calls, func(h *heap.Heap, m *plain) (api.Errno, api.Errno) {
				return h.Move(from, to), m.move(from, to)
			})
		}
	}
	for _, sizes := range [][]int{{}, {0, 0, 0, 0, 0}, {1, 0, 1}, {0, 2}, {1, 2}, {0, 1, 0}} {
		for n := range len(calls) * len(calls) * len(calls) {
			h := newHeap(t, 5)
			m := &plain{limit: 5}
			for i, size := range sizes {
				at, _ := h.Alloc(api.Kind(int(api.Text)+i), size)
				m.alloc(api.Kind(int(api.Text)+i), size)
				for j := range size {
					h.Write(at, j, uint64(10*i+j+1))
					m.write(at, j, uint64(10*i+j+1))
				}
			}
			rest := n
			for range 3 {
				e, want := calls[rest%len(calls)](h, m)
				wantErr(t, "a call", e, want)
				rest /= len(calls)
			}
			compare(t, h, m)
			if t.Failed() {
				t.Fatalf("objects of %v, row %d", sizes, n)
			}
		}
	}
}

// P1.6 at the limit: every second object of a full heap goes, the others slide, as a collector moves them
func TestSlideGreatest(t *testing.T) {
	h := newHeap(t, api.MaxWords)
	const each = 2 * 2 // two objects of one word each
	for at := int64(0); at < api.MaxWords; at += 2 {
		add(t, h, api.Cell, 1, at)
		wantErr(t, "Write", h.Write(at, 0, uint64(at)), api.OK)
	}
	_, e := h.Alloc(api.Text, 0)
	wantErr(t, "Alloc in a full heap", e, api.ErrFull)
	var to int64
	for from := int64(2); from < api.MaxWords; from += each {
		wantErr(t, "Move", h.Move(from, to), api.OK)
		to += 2
	}
	wantUsed(t, h, api.MaxWords)
	wantErr(t, "Cut", h.Cut(to), api.OK)
	l := h.Places()
	if len(l) != api.MaxWords/each || h.Used() != api.MaxWords/2 {
		t.Fatalf("%d objects, %d words in use", len(l), h.Used())
	}
	for i, at := range l {
		if w, e := h.Read(at, 0); at != int64(2*i) || w != uint64(2+each*i) || e != api.OK {
			t.Fatalf("object %d at %d has %d, %d", i, at, w, e)
		}
	}
}

// P1.6 at the limit: behind a great gap each Move takes no longer than without it
func TestSlideOverGap(t *testing.T) {
	h := newHeap(t, api.MaxWords)
	const gap = api.MaxWords / 2
	add(t, h, api.Text, gap-1, 0)
	for at := int64(gap); at < api.MaxWords; at++ {
		add(t, h, api.Items, 0, at)
	}
	for from := int64(gap); from < api.MaxWords; from++ {
		wantErr(t, "Move", h.Move(from, from-gap), api.OK)
	}
	l := h.Places()
	if len(l) != gap || l[gap-1] != gap-1 {
		t.Errorf("%d objects", len(l))
	}
	wantErr(t, "Cut", h.Cut(gap), api.OK)
	wantErr(t, "Cut", h.Cut(0), api.OK)
	wantPlaces(t, h)
}
