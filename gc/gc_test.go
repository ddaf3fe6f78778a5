package gc_test

import (
	"math"
	"slices"
	"testing"

	"gearbox/api"
	"gearbox/gc"
	"gearbox/heap"
)

// obj is an object as it is laid into a heap, or found there.
type obj struct {
	kind  api.Kind
	words []uint64
}

// lay makes a heap of objects, one behind the other, that fit into it.
func lay(t *testing.T, room int, objs ...obj) *heap.Heap {
	t.Helper()
	h, e := heap.New(room)
	if e != api.OK {
		t.Fatalf("New(%d): %d", room, e)
	}
	for _, o := range objs {
		at, e := h.Alloc(o.kind, len(o.words))
		if e != api.OK {
			t.Fatalf("Alloc(%d, %d): %d", o.kind, len(o.words), e)
		}
		for i, w := range o.words {
			h.Write(at, i, w)
		}
	}
	return h
}

// at is an object at a place of the heap, with its words.
func at(h *heap.Heap, place int64) obj {
	k, _ := h.Kind(place)
	n, _ := h.Size(place)
	o := obj{kind: k, words: make([]uint64, n)}
	for i := range n {
		o.words[i], _ = h.Read(place, i)
	}
	return o
}

// all are a heap's objects by their places.
func all(h *heap.Heap) map[int64]obj {
	m := map[int64]obj{}
	for _, place := range h.Places() {
		m[place] = at(h, place)
	}
	return m
}

// wantHeap asks for just these objects, from the beginning of the heap on.
func wantHeap(t *testing.T, h *heap.Heap, want ...obj) {
	t.Helper()
	var places []int64
	end := 0
	for _, o := range want {
		places = append(places, int64(end))
		got := at(h, int64(end))
		if got.kind != o.kind || !slices.Equal(got.words, o.words) {
			t.Errorf("at %d: %v, want %v", end, got, o)
		}
		end += 1 + len(o.words)
	}
	if l := h.Places(); !slices.Equal(l, places) {
		t.Errorf("Places = %v, want %v", l, places)
	}
	if h.Used() != end {
		t.Errorf("Used = %d, want %d", h.Used(), end)
	}
}

func wantReach(t *testing.T, h *heap.Heap, roots []api.Val, words int, places ...int64) {
	t.Helper()
	l, n, e := gc.Reach(h, roots)
	if !slices.Equal(l, places) || n != words || e != api.OK {
		t.Errorf("Reach(%v) = %v, %d, %d, want %v, %d", roots, l, n, e, places, words)
	}
}

func wantCollect(t *testing.T, h *heap.Heap, roots []api.Val, want ...api.Val) {
	t.Helper()
	l, e := gc.Collect(h, roots)
	if !slices.Equal(l, want) || e != api.OK {
		t.Errorf("Collect(%v) = %v, %d, want %v", roots, l, e, want)
	}
}

// wantErr asks both calls for an error, beside nothing, and for a heap that is as it was.
func wantErr(t *testing.T, h *heap.Heap, roots []api.Val, want api.Errno) {
	t.Helper()
	before, used := all(h), h.Used()
	if l, n, e := gc.Reach(h, roots); len(l) != 0 || n != 0 || e != want {
		t.Errorf("Reach(%v) = %v, %d, %d, want %d", roots, l, n, e, want)
	}
	if l, e := gc.Collect(h, roots); len(l) != 0 || e != want {
		t.Errorf("Collect(%v) = %v, %d, want %d", roots, l, e, want)
	}
	if !sameObjs(before, all(h)) || h.Used() != used {
		t.Errorf("Collect(%v) changed the heap beside an error", roots)
	}
}

func sameObjs(a, b map[int64]obj) bool {
	if len(a) != len(b) {
		return false
	}
	for place, o := range a {
		p, ok := b[place]
		if !ok || p.kind != o.kind || !slices.Equal(p.words, o.words) {
			return false
		}
	}
	return true
}

// w is the number of a kind, as a word has it.
func w(k api.Kind) uint64 { return uint64(k) }

func text(n int64) api.Val { return api.Val{Kind: api.Text, N: n} }
func list(n int64) api.Val { return api.Val{Kind: api.List, N: n} }
func fn(n int64) api.Val   { return api.Val{Kind: api.Func, N: n} }
func cell(n int64) api.Val { return api.Val{Kind: api.Cell, N: n} }
func num(n int64) api.Val  { return api.Val{Kind: api.Int, N: n} }

// vals is a list of roots.
func vals(l ...api.Val) []api.Val { return l }

// example is the chapter's H.
func example(t *testing.T) *heap.Heap {
	return lay(t, 30,
		obj{api.Text, []uint64{0, 0}},
		obj{api.Items, []uint64{0, 0, w(api.Cell), 11}},
		obj{api.List, []uint64{2, 4}},
		obj{api.Cell, []uint64{w(api.List), 8}},
		obj{api.Text, []uint64{0}})
}

// P2.1, P2.2: the chapter's examples
func TestExamples(t *testing.T) {
	h := example(t)
	wantReach(t, h, vals(list(8)), 11, 3, 8, 11)
	wantReach(t, h, vals(text(14)), 2, 14)
	wantReach(t, h, vals(api.Val{}, num(5)), 0)
	for _, v := range vals(text(8), text(30), api.Val{Kind: api.Items, N: 3}) {
		wantErr(t, h, vals(v), api.ErrArg)
	}
	wantCollect(t, h, vals(cell(11), num(7), text(14)), cell(8), num(7), text(11))
	wantHeap(t, h,
		obj{api.Items, []uint64{0, 0, w(api.Cell), 8}},
		obj{api.List, []uint64{2, 1}},
		obj{api.Cell, []uint64{w(api.List), 5}},
		obj{api.Text, []uint64{0}})
	wantCollect(t, h, nil)
	wantHeap(t, h)
}

// P2.1, P2.2: a heap that is not there, whatever the roots
func TestNoHeap(t *testing.T) {
	for _, h := range []*heap.Heap{nil, {}} {
		for _, roots := range [][]api.Val{nil, vals(num(1)), vals(text(0)), vals(api.Val{Kind: 200})} {
			wantErr(t, h, roots, api.ErrNil)
		}
	}
}

// P2.1: of each kind only what begins there may be told, and no kind behind Cell
func TestRootKinds(t *testing.T) {
	objs := []obj{{api.Text, nil}, {api.List, nil}, {api.Map, nil}, {api.Func, nil}, {api.Cell, nil}, {api.Items, nil}}
	for k := range 256 {
		for place := int64(-2); place < 9; place++ {
			h := lay(t, 8, objs...)
			v := api.Val{Kind: api.Kind(k), N: place}
			switch {
			case v.Kind < api.Text:
				wantReach(t, h, vals(v), 0)
				wantCollect(t, h, vals(v), v)
				wantHeap(t, h)
			case v.Kind <= api.Cell && place == int64(v.Kind-api.Text):
				wantReach(t, h, vals(v), 1, place)
				wantCollect(t, h, vals(v), api.Val{Kind: v.Kind})
				wantHeap(t, h, objs[place])
			default:
				wantErr(t, h, vals(v), api.ErrArg)
			}
		}
	}
}

// P2.1: places that no object begins at; one wrong root is enough, wherever it stands
func TestRootPlaces(t *testing.T) {
	for _, place := range []int64{math.MinInt64, -1, 1, 2, 3, 8, 9, 10, 12, 16, 29, 30, 31, 1 << 32, math.MaxInt64} {
		for _, k := range []api.Kind{api.Text, api.List, api.Map, api.Func, api.Cell} {
			if k == api.List && place == 8 {
				continue
			}
			v := api.Val{Kind: k, N: place}
			h := example(t)
			wantErr(t, h, vals(v), api.ErrArg)
			wantErr(t, h, vals(v, list(8), num(1)), api.ErrArg)
			wantErr(t, h, vals(num(1), list(8), v), api.ErrArg)
		}
	}
	h := example(t)
	h.Cut(14)
	wantErr(t, h, vals(text(14)), api.ErrArg)
	h.Move(11, 8)
	wantErr(t, h, vals(list(8)), api.ErrArg)
	wantErr(t, h, vals(cell(11)), api.ErrArg)
}

// P2.2: values that lead nowhere come back as they are, whatever their N
func TestPlainRoots(t *testing.T) {
	h := example(t)
	roots := vals(num(14), text(14), num(-1), api.Val{}, api.Val{Kind: api.Bool, N: 14}, api.Val{N: 14}, num(math.MinInt64))
	want := slices.Clone(roots)
	want[1] = text(0)
	wantReach(t, h, roots, 2, 14)
	wantCollect(t, h, roots, want...)
	wantHeap(t, h, obj{api.Text, []uint64{0}})
}

// P2.1, P2.2: no roots; a heap in which nothing is
func TestNoRoots(t *testing.T) {
	for _, roots := range [][]api.Val{nil, {}} {
		h := example(t)
		wantReach(t, h, roots, 0)
		wantCollect(t, h, roots)
		wantHeap(t, h)
		wantReach(t, h, roots, 0)
		wantCollect(t, h, roots)
		wantHeap(t, h)
		if h.Words() != 30 {
			t.Errorf("Words = %d", h.Words())
		}
		if place, e := h.Alloc(api.Text, 29); place != 0 || e != api.OK {
			t.Errorf("Alloc behind a collection: %d, %d", place, e)
		}
	}
}

// P2.1: what each kind holds, and what it does not: each row is an object at 0, behind it stand a Text (at 9), Items (at 10) and a Cell (at 11)
func TestHolds(t *testing.T) {
	T, I, C := w(api.Text), w(api.Items), w(api.Cell)
	for i, c := range []struct {
		kind  api.Kind
		words [8]uint64
		size  int
		want  []int64
	}{
		{api.Text, [8]uint64{T, 9, C, 11, T, 9, C, 11}, 8, nil},
		{api.List, [8]uint64{T, 9, T, 9, C, 11}, 8, nil},
		{api.List, [8]uint64{11, 11}, 8, []int64{10}},
		{api.List, [8]uint64{0, 11}, 2, []int64{10}},
		{api.List, [8]uint64{11}, 1, nil},
		{api.List, [8]uint64{}, 0, nil},
		{api.List, [8]uint64{11, 10}, 2, nil},
		{api.List, [8]uint64{11, 12}, 2, nil},
		{api.List, [8]uint64{11, 1, 11}, 3, nil},
		{api.List, [8]uint64{0, math.MaxUint64}, 2, nil},
		{api.List, [8]uint64{0, 1<<63 + 11}, 2, nil},
		{api.List, [8]uint64{0, 1<<32 + 11}, 2, nil},
		{api.Map, [8]uint64{11, 11}, 8, []int64{10}},
		{api.Map, [8]uint64{T, 9, T, 9}, 8, nil},
		{api.Map, [8]uint64{11}, 1, nil},
		{api.Items, [8]uint64{T, 9, C, 11}, 8, []int64{9, 11}},
		{api.Items, [8]uint64{0, 0, 0, 0, 0, 0, C, 11}, 8, []int64{11}},
		{api.Items, [8]uint64{0, 0, 0, 0, C, 11, T, 9}, 7, []int64{11}},
		{api.Items, [8]uint64{0, T, 9, 0}, 8, nil},
		{api.Items, [8]uint64{T}, 1, nil},
		{api.Items, [8]uint64{}, 0, nil},
		{api.Items, [8]uint64{I, 10, w(api.Int), 9, w(api.Nil), 9, w(api.Bool), 9}, 8, nil},
		{api.Items, [8]uint64{T, 11, C, 9, w(api.List), 9, T, 10}, 8, nil},
		{api.Items, [8]uint64{256 + T, 9, 1<<32 + T, 9, 1<<63 + C, 11, T + 1<<8, 9}, 8, nil},
		{api.Items, [8]uint64{T, 1<<63 + 9, T, math.MaxUint64, T, 1<<32 + 9, C, 12}, 8, nil},
		{api.Func, [8]uint64{9, T, 9, C, 11}, 8, []int64{9, 11}},
		{api.Func, [8]uint64{0, 0, 0, 0, 0, C, 11, 0}, 7, []int64{11}},
		{api.Func, [8]uint64{T, 9, T, 9}, 8, nil},
		{api.Func, [8]uint64{0, T, 9}, 2, nil},
		{api.Func, [8]uint64{T, 9}, 1, nil},
		{api.Func, [8]uint64{}, 0, nil},
		{api.Cell, [8]uint64{T, 9, C, 11}, 8, []int64{9}},
		{api.Cell, [8]uint64{C, 11, T, 9}, 2, []int64{11}},
		{api.Cell, [8]uint64{T, 9}, 1, nil},
		{api.Cell, [8]uint64{0, T, 9}, 3, nil},
		{api.Cell, [8]uint64{}, 0, nil},
	} {
		// A Text of the words that are left keeps the places of the others the same in all rows.
		objs := []obj{{c.kind, c.words[:c.size]}}
		if c.size < 8 {
			objs = append(objs, obj{api.Text, make([]uint64, 7-c.size)})
		}
		objs = append(objs, obj{api.Text, nil}, obj{api.Items, nil}, obj{api.Cell, nil})
		h := lay(t, 12, objs...)
		root := vals(api.Val{Kind: c.kind, N: 0})
		words := 1 + c.size
		if c.kind == api.Items { // these are reached by a List alone
			h = lay(t, 15, append(objs, obj{api.List, []uint64{0, 1}})...)
			root = vals(list(12))
			words += 3
			c.want = append(c.want, 12)
		}
		for _, place := range c.want {
			if place < 12 {
				words++
			}
		}
		l, n, e := gc.Reach(h, root)
		if want := append([]int64{0}, c.want...); !slices.Equal(l, want) || n != words || e != api.OK {
			t.Errorf("row %d: %v, %d, %d, want %v, %d", i, l, n, e, want, words)
		}
	}
}

// P2.2: of the words of what is kept only those that lead to an object are others; those that look alike stay
func TestWordsThatStay(t *testing.T) {
	T, C := w(api.Text), w(api.Cell)
	h := lay(t, 64,
		obj{api.Text, []uint64{0, 0, 0}},                                         // 0, goes
		obj{api.Text, []uint64{T, 4, 0}},                                         // 4
		obj{api.Items, []uint64{T, 4, 256 + T, 4, w(api.Int), 4, T, 5, T}},       // 8
		obj{api.List, []uint64{9, 9, T, 4}},                                      // 18
		obj{api.Cell, []uint64{T, 4, T, 4}},                                      // 23
		obj{api.Func, []uint64{4, C, 23, T, 4, w(api.List), 4, T, 0, T}},         // 28
		obj{api.Map, []uint64{1, 5}},                                             // 39
		obj{api.Items, []uint64{w(api.Map), 39, w(api.Nil), 4, w(api.Bool), 39}}, // 42
		obj{api.Map, []uint64{43, 43}},                                           // 49
	)
	// The Func's value of a Text at 0 leads to one, which is kept with it; there the values of a Text at 4 and at 0 are told anew.
	wantReach(t, h, vals(fn(28), list(18), api.Val{Kind: api.Map, N: 49}), 52, 0, 4, 8, 18, 23, 28, 39, 42, 49)
	h.Write(28, 8, 1)
	wantReach(t, h, vals(fn(28), list(18), api.Val{Kind: api.Map, N: 49}), 48, 4, 8, 18, 23, 28, 39, 42, 49)
	wantCollect(t, h, vals(fn(28), list(18), api.Val{Kind: api.Map, N: 49}), fn(24), list(14), api.Val{Kind: api.Map, N: 45})
	wantHeap(t, h,
		obj{api.Text, []uint64{T, 4, 0}},
		obj{api.Items, []uint64{T, 0, 256 + T, 4, w(api.Int), 4, T, 5, T}},
		obj{api.List, []uint64{9, 5, T, 4}},
		obj{api.Cell, []uint64{T, 0, T, 4}},
		obj{api.Func, []uint64{4, C, 19, T, 0, w(api.List), 4, T, 1, T}},
		obj{api.Map, []uint64{1, 5}},
		obj{api.Items, []uint64{w(api.Map), 35, w(api.Nil), 4, w(api.Bool), 39}},
		obj{api.Map, []uint64{43, 39}})
}

// P2.2: a word that led nowhere stays, though an object comes to lie where it points
func TestNowhereBecomesSomewhere(t *testing.T) {
	T := w(api.Text)
	h := lay(t, 20,
		obj{api.Items, nil},                    // 0, goes
		obj{api.Cell, []uint64{T, 6}},          // 1
		obj{api.Cell, []uint64{w(api.Map), 6}}, // 4
		obj{api.Text, nil},                     // 7
		obj{api.List, []uint64{0, 9}},          // 8
		obj{api.Map, []uint64{0, 11}},          // 11
		obj{api.Items, []uint64{T, 7}},         // 14
		obj{api.List, []uint64{0, 15}})         // 17
	roots := vals(cell(1), cell(4), text(7), list(8), api.Val{Kind: api.Map, N: 11}, list(17))
	wantCollect(t, h, roots, cell(0), cell(3), text(6), list(7), api.Val{Kind: api.Map, N: 10}, list(16))
	wantHeap(t, h,
		obj{api.Cell, []uint64{T, 6}},
		obj{api.Cell, []uint64{w(api.Map), 6}},
		obj{api.Text, nil},
		obj{api.List, []uint64{0, 9}},
		obj{api.Map, []uint64{0, 11}},
		obj{api.Items, []uint64{T, 6}},
		obj{api.List, []uint64{0, 14}})
}

// P2.1, P2.2: objects that lead to themselves, to one another; Items that several have
func TestRings(t *testing.T) {
	C := w(api.Cell)
	ring := func() *heap.Heap {
		return lay(t, 40,
			obj{api.Text, nil},                        // 0
			obj{api.Cell, []uint64{C, 1}},             // 1, leads to itself
			obj{api.Text, []uint64{7}},                // 4
			obj{api.Cell, []uint64{C, 9}},             // 6
			obj{api.Cell, []uint64{C, 6}},             // 9
			obj{api.List, []uint64{1, 19}},            // 12
			obj{api.Map, []uint64{1, 19}},             // 15
			obj{api.Items, []uint64{w(api.List), 12}}) // 18
	}
	wantReach(t, ring(), vals(cell(1)), 3, 1)
	wantReach(t, ring(), vals(cell(6)), 6, 6, 9)
	wantReach(t, ring(), vals(cell(9)), 6, 6, 9)
	wantReach(t, ring(), vals(list(12)), 6, 12, 18)
	wantReach(t, ring(), vals(api.Val{Kind: api.Map, N: 15}), 9, 12, 15, 18)
	h := ring()
	wantCollect(t, h, vals(cell(1)), cell(0))
	wantHeap(t, h, obj{api.Cell, []uint64{C, 0}})
	h = ring()
	wantCollect(t, h, vals(api.Val{Kind: api.Map, N: 15}, cell(9)), api.Val{Kind: api.Map, N: 9}, cell(3))
	wantHeap(t, h,
		obj{api.Cell, []uint64{C, 3}},
		obj{api.Cell, []uint64{C, 0}},
		obj{api.List, []uint64{1, 13}},
		obj{api.Map, []uint64{1, 13}},
		obj{api.Items, []uint64{w(api.List), 6}})
}

// P2.2: words that no object has, between the objects and behind them, go too
func TestGaps(t *testing.T) {
	T := w(api.Text)
	h := lay(t, 30,
		obj{api.Cell, []uint64{T, 11}}, // 0
		obj{api.Text, []uint64{1, 2}},  // 3
		obj{api.Text, []uint64{3, 4}},  // 6
		obj{api.Text, []uint64{5}},     // 9
		obj{api.Text, []uint64{6}},     // 11
		obj{api.Text, []uint64{7}})     // 13
	h.Move(6, 3)
	h.Move(9, 7) // now there is nothing at 6, nor at 9 and 10
	wantReach(t, h, vals(cell(0), text(7)), 7, 0, 7, 11)
	wantCollect(t, h, vals(cell(0), text(7)), cell(0), text(3))
	wantHeap(t, h,
		obj{api.Cell, []uint64{T, 5}},
		obj{api.Text, []uint64{5}},
		obj{api.Text, []uint64{6}})
}

// R4: the roots and their spare room stay, answers share nothing with them or with one another
func TestFreshMemory(t *testing.T) {
	h := example(t)
	given := vals(cell(11), text(14), num(3), text(1))
	roots := given[:2]
	a, _ := gc.Collect(h, roots)
	if !slices.Equal(given, vals(cell(11), text(14), num(3), text(1))) {
		t.Errorf("the roots: %v", given)
	}
	_ = append(a, num(9), num(9))
	a[0] = num(1)
	if !slices.Equal(given, vals(cell(11), text(14), num(3), text(1))) {
		t.Errorf("the answer is the roots' memory: %v", given)
	}
	roots = vals(cell(8), text(11))
	p, _, _ := gc.Reach(h, roots)
	q, _, _ := gc.Reach(h, roots)
	for i := range p {
		p[i] = -1
	}
	if !slices.Equal(q, []int64{0, 5, 8, 11}) {
		t.Errorf("two answers share memory: %v", q)
	}
	wantReach(t, h, roots, 13, 0, 5, 8, 11)
}

// R5: two heaps have nothing in common
func TestTwoHeaps(t *testing.T) {
	a, b := example(t), example(t)
	before := all(b)
	gc.Collect(a, vals(text(14)))
	if !sameObjs(before, all(b)) {
		t.Errorf("the other heap changed: %v", all(b))
	}
	wantReach(t, b, vals(list(8)), 11, 3, 8, 11)
}
