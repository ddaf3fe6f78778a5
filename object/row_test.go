package object_test

import (
	"math"
	"slices"
	"strconv"
	"testing"

	"gearbox/api"
	"gearbox/heap"
	"gearbox/object"
)

// maker makes a List or a Map.
type maker func(h *heap.Heap, l []api.Val) (api.Val, api.Errno)

// unheld are values that may not be held, in the heap of the chapter's example with a Cell at 24 and a Func at 27.
func unheld(t *testing.T) (*heap.Heap, []api.Val) {
	t.Helper()
	h := example(t)
	m := must(t)
	m(object.NewFn(h, 0, vals(m(object.NewCell(h, none)))))
	l := vals(api.Val{N: 1}, api.Val{N: -1}, truth(2), truth(-1), truth(math.MaxInt64), cell(24), cell(0), items(7), items(15))
	for _, n := range []int64{-1, 1, 3, 5, 7, 15, 23, 24, 59, 60, math.MinInt64, math.MaxInt64} {
		l = append(l, text(n), list(n), table(n), fn(n), cell(n))
	}
	for k := int(api.Items); k < 256; k++ {
		l = append(l, api.Val{Kind: api.Kind(k)})
	}
	return h, append(l, text(4), text(12), list(0), list(12), table(4), fn(0), fn(24), cell(27))
}

// P3.2, P3.3, P3.5, P3.6: values that may not be held, wherever they stand
func TestUnheld(t *testing.T) {
	h, wrong := unheld(t)
	for _, x := range wrong {
		stays(t, h, func() {
			for _, l := range [][]api.Val{{x}, {num(1), x}, {x, num(1)}, {x, x}, {none, num(1), x, none}} {
				v, e := object.NewList(h, l)
				wantVal(t, "NewList", v, e, none, api.ErrArg)
				v, e = object.NewMap(h, l)
				wantVal(t, "NewMap", v, e, none, api.ErrArg)
			}
			v, e := object.NewCell(h, x)
			wantVal(t, "NewCell", v, e, none, api.ErrArg)
			wantErr(t, "SetCell", object.SetCell(h, cell(24), x), api.ErrArg)
			for _, n := range []int64{0, 1, 2, 3, -1} {
				wantPut(t, h, list(4), num(n), x, api.ErrArg)
				wantPut(t, h, table(12), num(n), x, api.ErrArg)
			}
			wantPut(t, h, list(4), none, x, api.ErrKind)
			wantPut(t, h, table(12), x, num(1), api.ErrArg)
			wantPut(t, h, table(12), x, x, api.ErrArg)
		})
		if t.Failed() {
			t.Fatalf("of %v", x)
		}
	}
}

// P3.2, P3.3, P3.5, P3.6: values that may be held
func TestHeld(t *testing.T) {
	for _, x := range vals(none, truth(0), truth(1), num(0), num(-1), num(math.MinInt64), num(math.MaxInt64), text(0), list(4), table(12), fn(27)) {
		h, _ := unheld(t)
		m := must(t)
		wantPut(t, h, list(4), num(0), x, api.OK)
		wantGet(t, h, list(4), num(0), x, api.OK)
		wantPut(t, h, table(12), x, x, api.OK)
		wantGet(t, h, table(12), x, x, api.OK)
		wantErr(t, "SetCell", object.SetCell(h, cell(24), x), api.OK)
		v, e := object.Cell(h, cell(24))
		wantVal(t, "Cell", v, e, x, api.OK)
		wantItems(t, h, m(object.NewList(h, vals(x, num(2)))), x, num(2))
		wantItems(t, h, m(object.NewMap(h, vals(x, x))), x, x)
		v, e = object.Cell(h, m(object.NewCell(h, x)))
		wantVal(t, "Cell", v, e, x, api.OK)
	}
}

// P3.2, P3.3, P3.9: lists and maps take the words that are said, behind one another; one word less is too few
func TestRowWords(t *testing.T) {
	for _, c := range []struct {
		kind api.Kind
		make maker
		n    int
	}{
		{api.List, object.NewList, 0}, {api.List, object.NewList, 1}, {api.List, object.NewList, 2}, {api.List, object.NewList, 7},
		{api.Map, object.NewMap, 0}, {api.Map, object.NewMap, 2}, {api.Map, object.NewMap, 4}, {api.Map, object.NewMap, 10},
	} {
		var l []api.Val
		var held []uint64
		for i := range c.n {
			l = append(l, num(int64(i)))
			held = append(held, w(api.Int), uint64(i))
		}
		objs := []obj{{c.kind, []uint64{0, 0}}}
		if c.n > 0 {
			objs = []obj{{c.kind, []uint64{uint64(c.n), 4}}, {api.Items, held}}
		}
		words := 3
		if c.n > 0 {
			words = 4 + 2*c.n
		}
		h, _ := heap.New(words)
		v, e := c.make(h, l)
		wantVal(t, "a new one", v, e, api.Val{Kind: c.kind}, api.OK)
		wantHeap(t, h, objs...)
		wantItems(t, h, v, l...)
		wantUsed(t, h, words)
		h, _ = heap.New(words - 1)
		v, e = c.make(h, l)
		wantVal(t, "in too small a heap", v, e, none, api.ErrFull)
		wantHeap(t, h)
		wantUsed(t, h, 0)
	}
}

// P3.2: empty and nil are the same; what is handed in is neither changed nor kept, what is answered is new
func TestRowsNew(t *testing.T) {
	h, _ := heap.New(100)
	m := must(t)
	wantItems(t, h, m(object.NewList(h, nil)))
	wantItems(t, h, m(object.NewList(h, []api.Val{})))
	wantItems(t, h, m(object.NewMap(h, nil)))
	wantItems(t, h, m(object.NewMap(h, []api.Val{})))
	given := vals(num(1), num(2), num(1), num(4), num(7), num(7))
	lent := given[:4]
	l, d := m(object.NewList(h, lent)), m(object.NewMap(h, lent))
	if !slices.Equal(given, vals(num(1), num(2), num(1), num(4), num(7), num(7))) {
		t.Errorf("what was handed in was changed: %v", given)
	}
	given[0], given[1] = num(9), num(9)
	first, _ := object.Items(h, l)
	second, _ := object.Items(h, l)
	first = first[:cap(first)]
	for i := range first {
		first[i] = num(8)
	}
	if !slices.Equal(second, vals(num(1), num(2), num(1), num(4))) {
		t.Errorf("an answer was changed: %v", second)
	}
	wantItems(t, h, l, num(1), num(2), num(1), num(4))
	wantItems(t, h, d, num(1), num(4))
}

// P3.3: a map of an odd number of values, ahead of all else
func TestOddMap(t *testing.T) {
	h, _ := heap.New(1)
	for _, n := range []int{1, 3, 5, 2*api.MaxItems + 1, 2*api.MaxItems + 3} {
		v, e := object.NewMap(h, make([]api.Val, n))
		wantVal(t, "NewMap", v, e, none, api.ErrArg)
	}
	wantUsed(t, h, 0)
}

// P3.3: keys twice, of all kinds: the first key, the last value, room for all
func TestKeysTwice(t *testing.T) {
	h, _ := heap.New(400)
	m := must(t)
	a, b := m(object.NewText(h, "a text")), m(object.NewText(h, "a text"))
	other := m(object.NewText(h, "a texT"))
	l1, l2 := m(object.NewList(h, nil)), m(object.NewList(h, nil))
	n := func(i int64) api.Val { return num(100 + i) }
	at := h.Used()
	v := m(object.NewMap(h, vals(
		a, n(0), none, n(1), num(0), n(2), truth(0), n(3), l1, n(4), b, n(5), l2, n(6), none, n(7), other, n(8), num(0), n(9), a, n(10), l1, n(11), truth(1), n(12))))
	want := vals(a, n(10), none, n(7), num(0), n(9), truth(0), n(3), l1, n(11), l2, n(6), other, n(8), truth(1), n(12))
	wantItems(t, h, v, want...)
	wantLen(t, h, v, 8)
	wantUsed(t, h, at+3+1+2*26)
	size, e := h.Size(int64(at) + 3)
	if size != 52 || e != api.OK {
		t.Errorf("the Items' size: %d, %d", size, e)
	}
	for i := 32; i < 52; i++ {
		if x, _ := h.Read(int64(at)+3, i); x != 0 {
			t.Errorf("word %d is %d", i, x)
		}
	}
	for i := 0; i < len(want); i += 2 {
		wantGet(t, h, v, want[i], want[i+1], api.OK)
	}
	wantGet(t, h, v, b, n(10), api.OK)
	used := h.Used()
	wantPut(t, h, v, b, n(20), api.OK)
	want[1] = n(20)
	wantItems(t, h, v, want...)
	wantUsed(t, h, used)
}

// P3.3, P3.7: Texts that may not be are the same by their places alone
func TestUnfitKeys(t *testing.T) {
	h := lay(t, 200, obj{api.Text, []uint64{1, 'a'}}, obj{api.Text, []uint64{1, 'a', 0}}, obj{api.Text, []uint64{1, 'a', 0}}, obj{api.Text, []uint64{1, 'a' + 256}})
	v := must(t)(object.NewMap(h, vals(text(3), num(1), text(0), num(2), text(7), num(3), text(3), num(4), text(11), num(5), text(7), num(6))))
	wantItems(t, h, v, text(3), num(4), text(0), num(5), text(7), num(6))
	wantGet(t, h, v, text(7), num(6), api.OK)
	wantGet(t, h, v, text(11), num(5), api.OK)
	wantGet(t, h, v, text(1), none, api.OK)
}

// P3.4: of a List
func TestGetItem(t *testing.T) {
	h := lay(t, 30, obj{api.Items, []uint64{w(api.Int), 7, 300, 5, 200, 9, 0, 6, w(api.Int), 3}}, obj{api.List, []uint64{4, 1}}, obj{api.List, []uint64{0, 0}}, obj{api.List, []uint64{0, 1}})
	stays(t, h, func() {
		wantGet(t, h, list(11), num(0), num(7), api.OK)
		wantGet(t, h, list(11), num(1), none, api.OK)
		wantGet(t, h, list(11), num(2), api.Val{Kind: 200, N: 9}, api.OK)
		wantGet(t, h, list(11), num(3), api.Val{N: 6}, api.OK)
		for _, n := range []int64{4, 5, -1, math.MinInt64, math.MaxInt64, 1 << 32} {
			wantGet(t, h, list(11), num(n), none, api.ErrArg)
		}
		for _, v := range vals(list(11), list(14), list(17)) {
			for _, k := range vals(none, truth(0), list(11), api.Val{Kind: 200}) {
				wantGet(t, h, v, k, none, api.ErrKind)
			}
		}
		wantGet(t, h, list(14), num(0), none, api.ErrArg)
		wantGet(t, h, list(17), num(0), none, api.ErrArg)
		wantItems(t, h, list(11), num(7), none, api.Val{Kind: 200, N: 9}, api.Val{N: 6})
		noPlain(t, h, list(11))
	})
}

// P3.4: of a Map, at any value; of keys that are the same the first one
func TestGetPair(t *testing.T) {
	n := w(api.Int)
	h := lay(t, 60,
		obj{api.Items, []uint64{n, 1, n, 10, 300, 1, n, 20, n, 1, n, 30, 200, 4, n, 40, w(api.Text), 99, n, 50, 0, 3, n, 60, n, 2, n, 70}},
		obj{api.Map, []uint64{12, 1}}, obj{api.Map, []uint64{0, 0}}, obj{api.Map, []uint64{0, 1}})
	stays(t, h, func() {
		v := table(29)
		wantLen(t, h, v, 6)
		wantGet(t, h, v, num(1), num(10), api.OK)
		wantGet(t, h, v, none, num(20), api.OK)
		wantGet(t, h, v, api.Val{N: 9}, num(20), api.OK)
		wantGet(t, h, v, api.Val{Kind: 200, N: 4}, num(40), api.OK)
		wantGet(t, h, v, api.Val{Kind: 200, N: 5}, none, api.OK)
		wantGet(t, h, v, text(99), num(50), api.OK)
		wantGet(t, h, v, text(98), none, api.OK)
		wantGet(t, h, v, num(2), none, api.OK)
		wantGet(t, h, v, num(10), none, api.OK)
		wantGet(t, h, v, truth(1), none, api.OK)
		wantGet(t, h, v, v, none, api.OK)
		for _, x := range vals(table(32), table(35)) {
			wantGet(t, h, x, none, none, api.OK)
			wantGet(t, h, x, num(1), none, api.OK)
		}
	})
}

// P3.5: a List that grows: 4, then twice as many; the old Items stay
func TestListGrows(t *testing.T) {
	h, _ := heap.New(200)
	v := must(t)(object.NewList(h, nil))
	var want []api.Val
	for i, used := range []int{12, 12, 12, 12, 29, 29, 29, 29, 62, 62} {
		wantPut(t, h, v, num(int64(i)+1), num(5), api.ErrArg)
		wantPut(t, h, v, num(int64(i)), num(int64(10+i)), api.OK)
		want = append(want, num(int64(10+i)))
		wantItems(t, h, v, want...)
		wantLen(t, h, v, i+1)
		wantUsed(t, h, used)
	}
	wantPlain(t, h, v, list(1), api.Obj{Kind: api.List, L: want, Room: 16})
	n := w(api.Int)
	four := []uint64{n, 10, n, 11, n, 12, n, 13}
	eight := append(slices.Clone(four), n, 14, n, 15, n, 16, n, 17)
	sixteen := append(append(slices.Clone(eight), n, 18, n, 19), make([]uint64, 12)...)
	wantHeap(t, h, obj{api.List, []uint64{10, 30}}, obj{api.Items, four}, obj{api.Items, eight}, obj{api.Items, sixteen})
	stays(t, h, func() {
		for _, k := range vals(none, truth(0), v, api.Val{Kind: 200}) {
			wantPut(t, h, v, k, num(1), api.ErrKind)
		}
		for _, k := range []int64{11, -1, math.MinInt64, math.MaxInt64, 1 << 32} {
			wantPut(t, h, v, num(k), num(1), api.ErrArg)
		}
	})
	wantPut(t, h, v, num(0), v, api.OK)
	wantGet(t, h, v, num(0), v, api.OK)
}

// P3.5: a Map that grows: 8, then twice as many; a key that is there takes no room
func TestMapGrows(t *testing.T) {
	h, _ := heap.New(200)
	v := must(t)(object.NewMap(h, nil))
	var want []api.Val
	for i, used := range []int{20, 20, 20, 20, 53, 53, 53, 53, 118} {
		k := num(int64(i))
		wantPut(t, h, v, k, none, api.OK)
		wantPut(t, h, v, k, num(int64(10+i)), api.OK)
		want = append(want, k, num(int64(10+i)))
		wantItems(t, h, v, want...)
		wantLen(t, h, v, i+1)
		wantUsed(t, h, used)
	}
	wantPlain(t, h, v, table(1), api.Obj{Kind: api.Map, L: want, Room: 32})
	wantPut(t, h, v, num(3), truth(0), api.OK)
	want[7] = truth(0)
	wantItems(t, h, v, want...)
	// The old Items are as they were when they were full.
	for i := range 4 {
		if x, _ := h.Read(3, 4*i+3); x != uint64(10+i) {
			t.Errorf("the old Items' value %d: %d", i, x)
		}
	}
}

// P3.5: how much room new Items have, whatever room there was
func TestRooms(t *testing.T) {
	for _, c := range []struct {
		kind             api.Kind
		room, count, new int
	}{
		{api.List, 0, 0, 4}, {api.List, 1, 1, 4}, {api.List, 2, 2, 4}, {api.List, 3, 3, 6}, {api.List, 4, 4, 8}, {api.List, 5, 5, 10},
		{api.List, 1, 0, 0}, {api.List, 5, 4, 0}, {api.List, 9, 2, 0},
		{api.Map, 0, 0, 8}, {api.Map, 1, 0, 8}, {api.Map, 2, 2, 8}, {api.Map, 3, 2, 8}, {api.Map, 4, 4, 8}, {api.Map, 5, 4, 10}, {api.Map, 6, 6, 12}, {api.Map, 9, 8, 18},
		{api.Map, 2, 0, 0}, {api.Map, 6, 4, 0}, {api.Map, 7, 4, 0},
	} {
		for _, left := range []int{-1, 0, 1} {
			objs := []obj{{c.kind, []uint64{uint64(c.count), 4}}, {api.Items, make([]uint64, 2*c.room)}}
			if c.room == 0 {
				objs = []obj{{c.kind, []uint64{0, 0}}}
			}
			for i := range c.count {
				objs[1].words[2*i], objs[1].words[2*i+1] = w(api.Int), uint64(i)
			}
			used := 4 + 2*c.room
			if c.room == 0 {
				used = 3
			}
			need := 0
			if c.new > 0 {
				need = 1 + 2*c.new
			}
			if need+left < 0 {
				continue
			}
			h := lay(t, used+need+left, objs...)
			v := api.Val{Kind: c.kind}
			k := num(int64(c.count))
			if left < 0 {
				stays(t, h, func() { wantPut(t, h, v, k, num(77), api.ErrFull) })
				if c.count > 0 {
					wantPut(t, h, v, num(0), num(77), api.OK)
				}
				continue
			}
			wantPut(t, h, v, k, num(77), api.OK)
			wantUsed(t, h, used+need)
			wantGet(t, h, v, k, num(77), api.OK)
			_, _, e := object.Plain(h, v)
			wantErr(t, "Plain", e, api.OK)
			if c.new > 0 {
				if size, _ := h.Size(int64(used)); size != 2*c.new {
					t.Errorf("%v: Items of %d words", c, size)
				}
			}
		}
	}
}

// P3.5: words of Items that hold no value of the List yet are written over, those behind stay
func TestSpareWords(t *testing.T) {
	h := lay(t, 40, obj{api.List, []uint64{1, 4}}, obj{api.Items, []uint64{w(api.Int), 1, 9, 9, 8, 8}})
	wantPut(t, h, list(0), num(1), truth(1), api.OK)
	wantHeap(t, h, obj{api.List, []uint64{2, 4}}, obj{api.Items, []uint64{w(api.Int), 1, w(api.Bool), 1, 8, 8}})
	wantItems(t, h, list(0), num(1), truth(1))
}

// P3.2, P3.3, P3.5: as many values as may be, and one more
func TestMostItems(t *testing.T) {
	h, _ := heap.New(api.MaxWords)
	many := make([]api.Val, api.MaxItems+1)
	for i := range many {
		many[i] = num(int64(i))
	}
	stays(t, h, func() {
		v, e := object.NewList(h, many)
		wantVal(t, "NewList", v, e, none, api.ErrLimit)
		small, _ := heap.New(1)
		v, e = object.NewList(small, many)
		wantVal(t, "NewList", v, e, none, api.ErrLimit)
		many[api.MaxItems] = truth(2)
		v, e = object.NewList(h, many)
		wantVal(t, "NewList", v, e, none, api.ErrArg)
	})
	v := must(t)(object.NewList(h, many[:api.MaxItems]))
	wantUsed(t, h, 4+2*api.MaxItems)
	wantItems(t, h, v, many[:api.MaxItems]...)
	stays(t, h, func() {
		wantPut(t, h, v, num(api.MaxItems), num(1), api.ErrLimit)
		wantPut(t, h, v, num(api.MaxItems), truth(2), api.ErrArg)
		wantPut(t, h, v, num(api.MaxItems+1), num(1), api.ErrArg)
	})
	wantPut(t, h, v, num(api.MaxItems-1), num(-5), api.OK)
	wantGet(t, h, v, num(api.MaxItems-1), num(-5), api.OK)
}

// P3.5: the last value that may be put, into new Items of more room than may be used
func TestLastPut(t *testing.T) {
	h, _ := heap.New(api.MaxWords)
	m := must(t)
	v := m(object.NewList(h, make([]api.Val, api.MaxItems-1)))
	wantPut(t, h, v, num(api.MaxItems-1), num(6), api.OK)
	wantLen(t, h, v, api.MaxItems)
	wantGet(t, h, v, num(api.MaxItems-1), num(6), api.OK)
	wantPut(t, h, v, num(api.MaxItems), num(6), api.ErrLimit)
}

// P3.3, P3.5: as many keys as may be, texts among them; and one more
func TestMostKeys(t *testing.T) {
	h, _ := heap.New(api.MaxWords)
	m := must(t)
	var l []api.Val
	for i := range int64(api.MaxItems) {
		k := num(i)
		if i%8 == 0 {
			k = m(object.NewText(h, strconv.FormatInt(i, 10)))
		}
		l = append(l, k, num(-i))
	}
	stays(t, h, func() {
		v, e := object.NewMap(h, append(slices.Clone(l), num(0), num(0)))
		wantVal(t, "NewMap", v, e, none, api.ErrLimit)
		v, e = object.NewMap(h, append(slices.Clone(l), num(0), truth(2)))
		wantVal(t, "NewMap", v, e, none, api.ErrArg)
	})
	used := h.Used()
	v := m(object.NewMap(h, l))
	wantUsed(t, h, used+4+4*api.MaxItems)
	wantItems(t, h, v, l...)
	wantLen(t, h, v, api.MaxItems)
	again := m(object.NewText(h, "65528"))
	stays(t, h, func() {
		wantPut(t, h, v, truth(1), num(1), api.ErrLimit)
		wantPut(t, h, v, truth(2), num(1), api.ErrArg)
		wantGet(t, h, v, num(api.MaxItems-1), num(1-api.MaxItems), api.OK)
		wantGet(t, h, v, again, num(-65528), api.OK)
	})
	wantPut(t, h, v, again, num(9), api.OK)
	wantGet(t, h, v, l[2*65528], num(9), api.OK)
}

// P3.3: a map of one key, told as often as may be: room for all
func TestOneKey(t *testing.T) {
	h, _ := heap.New(api.MaxWords)
	m := must(t)
	k := m(object.NewText(h, string(make([]byte, 64))))
	var l []api.Val
	for i := range int64(api.MaxItems) {
		l = append(l, k, num(i))
	}
	v := m(object.NewMap(h, l))
	wantUsed(t, h, 10+4+4*api.MaxItems)
	wantPlain(t, h, v, table(2), api.Obj{Kind: api.Text, S: string(make([]byte, 64))}, api.Obj{Kind: api.Map, L: vals(text(1), num(api.MaxItems-1)), Room: 2 * api.MaxItems})
}

// the chapter's table: Items with room for more values than there may be
func TestRowLimits(t *testing.T) {
	for _, c := range []struct {
		kind       api.Kind
		most, step int
	}{{api.List, api.MaxItems, 1}, {api.Map, 2 * api.MaxItems, 2}} {
		h, _ := heap.New(api.MaxWords)
		h.Alloc(c.kind, 2)
		h.Alloc(api.Items, 4*api.MaxItems+8)
		h.Write(0, 0, uint64(c.most))
		h.Write(0, 1, 4)
		v := api.Val{Kind: c.kind}
		l := make([]api.Val, c.most)
		wantLen(t, h, v, api.MaxItems)
		wantItems(t, h, v, l...)
		wantPlain(t, h, v, api.Val{Kind: c.kind, N: 1}, api.Obj{Kind: c.kind, L: l, Room: 2*api.MaxItems + 4})
		wantPut(t, h, v, num(api.MaxItems), none, api.ErrLimit)
		h.Write(0, 0, uint64(c.most+c.step))
		refused(t, h, v, kindThenArg(v))
		noPlain(t, h, v)
		h.Write(0, 0, uint64(c.most-c.step))
		wantPut(t, h, v, num(api.MaxItems-1), num(1), api.OK)
		wantLen(t, h, v, api.MaxItems)
	}
}
