package heap_test

import (
	"math"
	"slices"
	"testing"

	"gearbox/api"
	"gearbox/heap"
)

// kinds are those that an object may have.
var kinds = []api.Kind{api.Text, api.List, api.Map, api.Func, api.Cell, api.Items}

// newHeap makes a heap that must be made.
func newHeap(t *testing.T, words int) *heap.Heap {
	t.Helper()
	h, e := heap.New(words)
	if h == nil || e != api.OK {
		t.Fatalf("New(%d) = %v, %d", words, h, e)
	}
	return h
}

// add makes an object that must be made at the place want.
func add(t *testing.T, h *heap.Heap, k api.Kind, size int, want int64) {
	t.Helper()
	if at, e := h.Alloc(k, size); at != want || e != api.OK {
		t.Fatalf("Alloc(%d, %d) = %d, %d, want %d", k, size, at, e, want)
	}
}

// fill writes numbers to the words of an object, from first on.
func fill(t *testing.T, h *heap.Heap, at int64, first uint64) {
	t.Helper()
	n, _ := h.Size(at)
	for i := range n {
		if e := h.Write(at, i, first+uint64(i)); e != api.OK {
			t.Fatalf("Write(%d, %d) = %d", at, i, e)
		}
	}
}

// wordsOf reads all words of an object.
func wordsOf(t *testing.T, h *heap.Heap, at int64) []uint64 {
	t.Helper()
	n, e := h.Size(at)
	if e != api.OK {
		t.Fatalf("Size(%d): %d", at, e)
	}
	l := make([]uint64, n)
	for i := range l {
		if l[i], e = h.Read(at, i); e != api.OK {
			t.Fatalf("Read(%d, %d): %d", at, i, e)
		}
	}
	return l
}

func wantErr(t *testing.T, what string, got, want api.Errno) {
	t.Helper()
	if got != want {
		t.Errorf("%s: %d, want %d", what, got, want)
	}
}

func wantPlaces(t *testing.T, h *heap.Heap, want ...int64) {
	t.Helper()
	if l := h.Places(); !slices.Equal(l, want) {
		t.Errorf("Places = %v, want %v", l, want)
	}
}

func wantUsed(t *testing.T, h *heap.Heap, want int) {
	t.Helper()
	if n := h.Used(); n != want {
		t.Errorf("Used = %d, want %d", n, want)
	}
}

func wantWords(t *testing.T, h *heap.Heap, at int64, want ...uint64) {
	t.Helper()
	if l := wordsOf(t, h, at); !slices.Equal(l, want) {
		t.Errorf("the words at %d: %v, want %v", at, l, want)
	}
}

// P1.1
func TestNew(t *testing.T) {
	for _, n := range []int{math.MinInt, -1, 0, api.MaxWords + 1, math.MaxInt} {
		if h, e := heap.New(n); h != nil || e != api.ErrArg {
			t.Errorf("New(%d) = %v, %d", n, h, e)
		}
	}
	for _, n := range []int{1, 2, 10, api.MaxWords} {
		h := newHeap(t, n)
		if h.Words() != n {
			t.Errorf("Words = %d, want %d", h.Words(), n)
		}
		wantUsed(t, h, 0)
		wantPlaces(t, h)
	}
}

// P1.2: the kinds that may be, and no others
func TestAllocKinds(t *testing.T) {
	for k := range 256 {
		h := newHeap(t, 3)
		want := api.ErrArg
		if slices.Contains(kinds, api.Kind(k)) {
			want = api.OK
		}
		_, e := h.Alloc(api.Kind(k), 2)
		wantErr(t, "Alloc", e, want)
		got, e := h.Kind(0)
		wantErr(t, "Kind", e, want)
		if want == api.OK && got != api.Kind(k) {
			t.Errorf("Kind = %d, want %d", got, k)
		}
	}
}

// P1.2: what just fits, what does not, and that a refusal changes nothing
func TestAllocRoom(t *testing.T) {
	h := newHeap(t, 10)
	for _, size := range []int{10, 11, api.MaxWords, math.MaxInt - 1, math.MaxInt} {
		at, e := h.Alloc(api.Text, size)
		wantErr(t, "Alloc", e, api.ErrFull)
		if at != 0 {
			t.Errorf("a place beside an error: %d", at)
		}
	}
	for _, size := range []int{-1, math.MinInt} {
		_, e := h.Alloc(api.Text, size)
		wantErr(t, "Alloc below 0", e, api.ErrArg)
	}
	_, e := h.Alloc(api.Nil, math.MaxInt)
	wantErr(t, "Alloc of no kind, too great", e, api.ErrArg)
	wantUsed(t, h, 0)
	wantPlaces(t, h)
	add(t, h, api.Text, 0, 0)
	add(t, h, api.Map, 7, 1)
	_, e = h.Alloc(api.Cell, 1)
	wantErr(t, "Alloc of one too many", e, api.ErrFull)
	add(t, h, api.Cell, 0, 9)
	_, e = h.Alloc(api.Cell, 0)
	wantErr(t, "Alloc in a full heap", e, api.ErrFull)
	wantUsed(t, h, 10)
	wantPlaces(t, h, 0, 1, 9)
}

// P1.2: at the end of the smallest and of the greatest heap
func TestAllocLimits(t *testing.T) {
	h := newHeap(t, 1)
	_, e := h.Alloc(api.Text, 1)
	wantErr(t, "Alloc", e, api.ErrFull)
	add(t, h, api.Func, 0, 0)
	wantUsed(t, h, 1)

	h = newHeap(t, api.MaxWords)
	_, e = h.Alloc(api.Text, api.MaxWords)
	wantErr(t, "Alloc", e, api.ErrFull)
	add(t, h, api.Items, api.MaxWords-1, 0)
	if n, e := h.Size(0); n != api.MaxWords-1 || e != api.OK {
		t.Errorf("Size = %d, %d", n, e)
	}
	wantErr(t, "Write", h.Write(0, api.MaxWords-2, 5), api.OK)
	if w, e := h.Read(0, api.MaxWords-2); w != 5 || e != api.OK {
		t.Errorf("Read = %d, %d", w, e)
	}
	wantErr(t, "Write", h.Write(0, api.MaxWords-1, 5), api.ErrArg)
}

// P1.2: words that were in use are 0 again
func TestAllocZero(t *testing.T) {
	h := newHeap(t, 8)
	add(t, h, api.Text, 3, 0)
	add(t, h, api.Text, 3, 4)
	fill(t, h, 0, math.MaxUint64-8)
	fill(t, h, 4, math.MaxUint64-8)
	wantErr(t, "Cut", h.Cut(4), api.OK)
	add(t, h, api.List, 3, 4)
	wantWords(t, h, 4, 0, 0, 0)
	wantErr(t, "Cut", h.Cut(0), api.OK)
	add(t, h, api.List, 6, 0)
	wantWords(t, h, 0, 0, 0, 0, 0, 0, 0)
	wantPlaces(t, h, 0)
}

// P1.3, P1.4: places at which nothing begins, words that an object has not
func TestWrongPlaces(t *testing.T) {
	h := newHeap(t, 12)
	add(t, h, api.Text, 2, 0)
	add(t, h, api.Cell, 0, 3)
	add(t, h, api.Map, 3, 4)
	fill(t, h, 0, 0)
	fill(t, h, 4, 1)
	// What looks like a head is none, where it was written as a word.
	wantErr(t, "Write", h.Write(4, 1, math.MaxUint64), api.OK)
	for _, at := range []int64{math.MinInt64, -1, 1, 2, 5, 6, 7, 8, 11, 12, 13, api.MaxWords, math.MaxInt64} {
		if k, e := h.Kind(at); k != 0 || e != api.ErrArg {
			t.Errorf("Kind(%d) = %d, %d", at, k, e)
		}
		if n, e := h.Size(at); n != 0 || e != api.ErrArg {
			t.Errorf("Size(%d) = %d, %d", at, n, e)
		}
		if w, e := h.Read(at, 0); w != 0 || e != api.ErrArg {
			t.Errorf("Read(%d, 0) = %d, %d", at, w, e)
		}
		wantErr(t, "Write", h.Write(at, 0, 9), api.ErrArg)
	}
	for at, size := range map[int64]int{0: 2, 3: 0, 4: 3} {
		for _, i := range []int{math.MinInt, -1, size, size + 1, api.MaxWords, math.MaxInt} {
			if w, e := h.Read(at, i); w != 0 || e != api.ErrArg {
				t.Errorf("Read(%d, %d) = %d, %d", at, i, w, e)
			}
			wantErr(t, "Write", h.Write(at, i, 9), api.ErrArg)
		}
	}
	wantWords(t, h, 0, 0, 1)
	wantWords(t, h, 3)
	wantWords(t, h, 4, 1, math.MaxUint64, 3)
	wantPlaces(t, h, 0, 3, 4)
}

// P1.3, P1.4: each object has its own kind, size and words
func TestKindSizeReadWrite(t *testing.T) {
	h := newHeap(t, 100)
	var at int64
	for i, k := range kinds {
		add(t, h, k, i, at)
		fill(t, h, at, uint64(100*i))
		at += int64(i + 1)
	}
	at = 0
	for i, k := range kinds {
		if got, e := h.Kind(at); got != k || e != api.OK {
			t.Errorf("Kind(%d) = %d, %d", at, got, e)
		}
		if n, e := h.Size(at); n != i || e != api.OK {
			t.Errorf("Size(%d) = %d, %d", at, n, e)
		}
		for j, w := range wordsOf(t, h, at) {
			if w != uint64(100*i+j) {
				t.Errorf("word %d at %d: %d", j, at, w)
			}
		}
		at += int64(i + 1)
	}
	for _, w := range []uint64{0, 1, 1 << 63, math.MaxUint64} {
		wantErr(t, "Write", h.Write(1, 0, w), api.OK)
		if got, e := h.Read(1, 0); got != w || e != api.OK {
			t.Errorf("Read = %d, %d, want %d", got, e, w)
		}
	}
}

// P1.5: what Places answers is nobody else's
func TestPlacesNew(t *testing.T) {
	h := newHeap(t, 9)
	add(t, h, api.Text, 0, 0)
	add(t, h, api.Text, 1, 1)
	add(t, h, api.Text, 2, 3)
	first := h.Places()
	second := h.Places()
	first = first[:cap(first)]
	for i := range first {
		first[i] = 99
	}
	if !slices.Equal(second, []int64{0, 1, 3}) {
		t.Errorf("an answer was changed: %v", second)
	}
	wantPlaces(t, h, 0, 1, 3)
	wantUsed(t, h, 6)
	if h.Words() != 9 {
		t.Errorf("Words = %d", h.Words())
	}
}

// P1.6: the places that Move refuses
func TestMoveRefused(t *testing.T) {
	h := newHeap(t, 12)
	add(t, h, api.Text, 2, 0)
	add(t, h, api.Cell, 2, 3)
	add(t, h, api.Map, 2, 6)
	fill(t, h, 3, 10)
	fill(t, h, 6, 20)
	for _, m := range [][2]int64{
		{1, 0}, {4, 3}, {9, 0}, {12, 0}, {-1, -1}, {math.MaxInt64, 0}, {math.MinInt64, 0}, // no object
		{3, -1}, {3, math.MinInt64}, {0, 1}, {3, 4}, {3, 6}, {6, math.MaxInt64}, // below 0, above from
		{3, 1}, {3, 2}, {6, 1}, {6, 2}, {6, 4}, {6, 5}, // words of objects
	} {
		wantErr(t, "Move", h.Move(m[0], m[1]), api.ErrArg)
	}
	wantPlaces(t, h, 0, 3, 6)
	wantUsed(t, h, 9)
	wantWords(t, h, 3, 10, 11)
	wantWords(t, h, 6, 20, 21)
}

// P1.6: Move to its own place, over its own words, over others, into what nothing has
func TestMove(t *testing.T) {
	h := newHeap(t, 20)
	add(t, h, api.Text, 0, 0)
	add(t, h, api.Cell, 1, 1)
	add(t, h, api.Map, 4, 3)
	add(t, h, api.Func, 1, 8)
	fill(t, h, 1, 10)
	fill(t, h, 3, 20)
	fill(t, h, 8, 30)
	wantErr(t, "Move to its own place", h.Move(3, 3), api.OK)
	wantPlaces(t, h, 0, 1, 3, 8)
	wantErr(t, "Move over its own words", h.Move(3, 1), api.OK)
	wantPlaces(t, h, 0, 1, 8)
	wantWords(t, h, 1, 20, 21, 22, 23)
	if k, e := h.Kind(1); k != api.Map || e != api.OK {
		t.Errorf("Kind = %d, %d", k, e)
	}
	wantErr(t, "Move into the middle of another one", h.Move(8, 5), api.ErrArg)
	wantErr(t, "Move into what nothing has", h.Move(8, 7), api.OK)
	wantPlaces(t, h, 0, 1, 7)
	wantErr(t, "Move once more", h.Move(7, 6), api.OK)
	wantPlaces(t, h, 0, 1, 6)
	wantWords(t, h, 6, 30)
	wantUsed(t, h, 10)
	add(t, h, api.Text, 0, 10)
	wantErr(t, "Move over two", h.Move(10, 1), api.OK)
	wantPlaces(t, h, 0, 1)
	wantErr(t, "Move over all", h.Move(1, 0), api.OK)
	wantPlaces(t, h, 0)
	wantUsed(t, h, 11)
	_, e := h.Kind(10)
	wantErr(t, "Kind where it was", e, api.ErrArg)
}

// P1.6: Cut at the end, between objects, in what nothing has, at 0
func TestCut(t *testing.T) {
	h := newHeap(t, 20)
	wantErr(t, "Cut of an empty heap", h.Cut(0), api.OK)
	wantErr(t, "Cut behind the end", h.Cut(1), api.ErrArg)
	add(t, h, api.Text, 2, 0)
	add(t, h, api.Cell, 2, 3)
	add(t, h, api.Map, 2, 6)
	fill(t, h, 0, 10)
	for _, at := range []int64{math.MinInt64, -1, 1, 2, 4, 5, 7, 8, 10, 20, math.MaxInt64} {
		wantErr(t, "Cut", h.Cut(at), api.ErrArg)
	}
	wantErr(t, "Cut at the end", h.Cut(9), api.OK)
	wantPlaces(t, h, 0, 3, 6)
	wantUsed(t, h, 9)
	wantErr(t, "Move", h.Move(6, 3), api.OK)
	wantErr(t, "Cut in what nothing has", h.Cut(8), api.OK)
	wantPlaces(t, h, 0, 3)
	wantUsed(t, h, 8)
	add(t, h, api.Func, 0, 8)
	wantPlaces(t, h, 0, 3, 8)
	wantErr(t, "Cut right behind an object", h.Cut(6), api.OK)
	wantErr(t, "Cut between objects", h.Cut(3), api.OK)
	wantPlaces(t, h, 0)
	wantUsed(t, h, 3)
	wantWords(t, h, 0, 10, 11)
	wantErr(t, "Cut at 0", h.Cut(0), api.OK)
	wantPlaces(t, h)
	wantUsed(t, h, 0)
	add(t, h, api.Items, 19, 0)
}

// R3: heaps that are not there
func TestNotThere(t *testing.T) {
	for _, h := range []*heap.Heap{nil, new(heap.Heap)} {
		at, e := h.Alloc(api.Text, 1)
		if at != 0 {
			t.Errorf("Alloc = %d", at)
		}
		wantErr(t, "Alloc", e, api.ErrNil)
		_, e = h.Alloc(api.Nil, -1)
		wantErr(t, "Alloc of what may not be", e, api.ErrNil)
		k, e := h.Kind(0)
		wantErr(t, "Kind", e, api.ErrNil)
		n, e := h.Size(-1)
		wantErr(t, "Size", e, api.ErrNil)
		w, e := h.Read(0, -1)
		wantErr(t, "Read", e, api.ErrNil)
		wantErr(t, "Write", h.Write(0, 0, 1), api.ErrNil)
		wantErr(t, "Move", h.Move(0, 1), api.ErrNil)
		wantErr(t, "Cut", h.Cut(-1), api.ErrNil)
		if k != 0 || n != 0 || w != 0 || h.Used() != 0 || h.Words() != 0 || len(h.Places()) != 0 {
			t.Error("a heap that is not there has something")
		}
	}
}

// R5: two heaps share nothing
func TestTwoHeaps(t *testing.T) {
	g, h := newHeap(t, 5), newHeap(t, 5)
	add(t, g, api.Text, 2, 0)
	wantUsed(t, h, 0)
	add(t, h, api.Map, 2, 0)
	fill(t, g, 0, 7)
	wantWords(t, h, 0, 0, 0)
	wantErr(t, "Cut", h.Cut(0), api.OK)
	wantPlaces(t, g, 0)
}

// R1: a copy does not panic, whatever became of the first one
func TestCopy(t *testing.T) {
	h := newHeap(t, 40)
	add(t, h, api.Text, 1, 0)
	add(t, h, api.Text, 5, 2)
	x := *h
	wantErr(t, "Cut", h.Cut(0), api.OK)
	add(t, h, api.Map, 0, 0)
	add(t, h, api.Map, 30, 1)
	for at := range int64(41) {
		for i := range 41 {
			x.Read(at, i)
			x.Write(at, i, 1)
		}
		x.Move(at, 0)
	}
	x.Alloc(api.Text, 1)
	x.Cut(1)
	x.Places()
}
