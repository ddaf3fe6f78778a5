package object_test

import (
	"fmt"
	"math"
	"slices"
	"strings"
	"testing"

	"gearbox/api"
	"gearbox/heap"
	"gearbox/object"
)

// obj is an object as it is laid into a heap, or found there.
type obj struct {
	kind  api.Kind
	words []uint64
}

// lay makes a heap of objects, one behind the other, that fit into it.
func lay(t *testing.T, room int, objs ...obj) *heap.Heap {
	t.Helper()
	h, e := heap.New(room)
	if e != api.OK {
		t.Fatalf("New(%d): %d", room, e)
	}
	for _, o := range objs {
		at, e := h.Alloc(o.kind, len(o.words))
		if e != api.OK {
			t.Fatalf("Alloc(%d, %d): %d", o.kind, len(o.words), e)
		}
		for i, w := range o.words {
			h.Write(at, i, w)
		}
	}
	return h
}

// all are a heap's objects by their places.
func all(h *heap.Heap) map[int64]obj {
	m := map[int64]obj{}
	for _, place := range h.Places() {
		k, _ := h.Kind(place)
		n, _ := h.Size(place)
		o := obj{kind: k, words: make([]uint64, n)}
		for i := range n {
			o.words[i], _ = h.Read(place, i)
		}
		m[place] = o
	}
	return m
}

func sameObjs(a, b map[int64]obj) bool {
	if len(a) != len(b) {
		return false
	}
	for place, o := range a {
		p, ok := b[place]
		if !ok || p.kind != o.kind || !slices.Equal(p.words, o.words) {
			return false
		}
	}
	return true
}

// brief is something as text, cut where it is long: heaps and lists may be great.
func brief(x any) string { return fmt.Sprintf("%.1500s", fmt.Sprint(x)) }

// wantHeap asks for just these objects, one behind the other.
func wantHeap(t *testing.T, h *heap.Heap, objs ...obj) {
	t.Helper()
	want := all(lay(t, h.Words(), objs...))
	if got := all(h); !sameObjs(got, want) {
		t.Errorf("the heap is %s, want %s", brief(got), brief(want))
	}
}

func wantUsed(t *testing.T, h *heap.Heap, want int) {
	t.Helper()
	if h.Used() != want {
		t.Errorf("Used = %d, want %d", h.Used(), want)
	}
}

// stays asks that what is done leaves a heap as it was.
func stays(t *testing.T, h *heap.Heap, do func()) {
	t.Helper()
	before, used := all(h), h.Used()
	do()
	if h.Used() != used || !sameObjs(before, all(h)) {
		t.Errorf("the heap was changed: %s, want %s", brief(all(h)), brief(before))
	}
}

// wantVal asks for a value and an error.
func wantVal(t *testing.T, what string, v api.Val, e api.Errno, want api.Val, f api.Errno) {
	t.Helper()
	if v != want || e != f {
		t.Errorf("%s = %v, %d, want %v, %d", what, v, e, want, f)
	}
}

func wantErr(t *testing.T, what string, got, want api.Errno) {
	t.Helper()
	if got != want {
		t.Errorf("%s: %d, want %d", what, got, want)
	}
}

func wantItems(t *testing.T, h *heap.Heap, v api.Val, want ...api.Val) {
	t.Helper()
	if l, e := object.Items(h, v); e != api.OK || !slices.Equal(l, want) {
		t.Errorf("Items(%v) = %s, %d, want %s", v, brief(l), e, brief(want))
	}
}

func wantText(t *testing.T, h *heap.Heap, v api.Val, want string) {
	t.Helper()
	if s, e := object.Text(h, v); s != want || e != api.OK {
		t.Errorf("Text(%v) = %q, %d, want %q", v, s, e, want)
	}
	if n, e := object.Len(h, v); n != len(want) || e != api.OK {
		t.Errorf("Len(%v) = %d, %d, want %d", v, n, e, len(want))
	}
}

func wantLen(t *testing.T, h *heap.Heap, v api.Val, want int) {
	t.Helper()
	if n, e := object.Len(h, v); n != want || e != api.OK {
		t.Errorf("Len(%v) = %d, %d, want %d", v, n, e, want)
	}
}

func wantGet(t *testing.T, h *heap.Heap, v, k, want api.Val, f api.Errno) {
	t.Helper()
	x, e := object.Get(h, v, k)
	wantVal(t, "Get", x, e, want, f)
}

func wantPut(t *testing.T, h *heap.Heap, v, k, x api.Val, want api.Errno) {
	t.Helper()
	if e := object.Put(h, v, k, x); e != want {
		t.Errorf("Put(%v, %v, %v) = %d, want %d", v, k, x, e, want)
	}
}

func sameStores(a, b api.Store) bool {
	return slices.EqualFunc(a, b, func(x, y api.Obj) bool {
		return x.Kind == y.Kind && x.S == y.S && x.Room == y.Room && x.Fn == y.Fn && slices.Equal(x.L, y.L)
	})
}

func wantPlain(t *testing.T, h *heap.Heap, v, want api.Val, objs ...api.Obj) {
	t.Helper()
	s, x, e := object.Plain(h, v)
	if e != api.OK || x != want || !sameStores(s, objs) {
		t.Errorf("Plain(%v) = %s, %v, %d, want %s, %v", v, brief(s), x, e, brief(objs), want)
	}
}

func noPlain(t *testing.T, h *heap.Heap, v api.Val) {
	t.Helper()
	if s, x, e := object.Plain(h, v); len(s) != 0 || x != (api.Val{}) || e != api.ErrArg {
		t.Errorf("Plain(%v) = %s, %v, %d, want %d", v, brief(s), x, e, api.ErrArg)
	}
}

// must is a value that must have been made.
func must(t *testing.T) func(v api.Val, e api.Errno) api.Val {
	return func(v api.Val, e api.Errno) api.Val {
		t.Helper()
		if e != api.OK {
			t.Fatalf("not made: %d", e)
		}
		return v
	}
}

// w is the number of a kind, as a word has it.
func w(k api.Kind) uint64 { return uint64(k) }

func num(n int64) api.Val   { return api.Val{Kind: api.Int, N: n} }
func truth(n int64) api.Val { return api.Val{Kind: api.Bool, N: n} }
func text(n int64) api.Val  { return api.Val{Kind: api.Text, N: n} }
func list(n int64) api.Val  { return api.Val{Kind: api.List, N: n} }
func table(n int64) api.Val { return api.Val{Kind: api.Map, N: n} }
func fn(n int64) api.Val    { return api.Val{Kind: api.Func, N: n} }
func cell(n int64) api.Val  { return api.Val{Kind: api.Cell, N: n} }
func items(n int64) api.Val { return api.Val{Kind: api.Items, N: n} }

var none = api.Val{}

func vals(l ...api.Val) []api.Val { return l }

// taker is a call of a value, and which kinds it takes.
type taker struct {
	name  string
	kinds []api.Kind
	call  func(h *heap.Heap, v api.Val) (bool, api.Errno) // did it answer zero values; its error
}

// takers are all of them; what they are handed beside the value may be.
var takers = []taker{
	{"Text", []api.Kind{api.Text}, func(h *heap.Heap, v api.Val) (bool, api.Errno) {
		s, e := object.Text(h, v)
		return s == "", e
	}},
	{"Items", []api.Kind{api.List, api.Map}, func(h *heap.Heap, v api.Val) (bool, api.Errno) {
		l, e := object.Items(h, v)
		return len(l) == 0, e
	}},
	{"Len", []api.Kind{api.Text, api.List, api.Map}, func(h *heap.Heap, v api.Val) (bool, api.Errno) {
		n, e := object.Len(h, v)
		return n == 0, e
	}},
	{"Get", []api.Kind{api.Text, api.List, api.Map}, func(h *heap.Heap, v api.Val) (bool, api.Errno) {
		x, e := object.Get(h, v, num(0))
		return x == none, e
	}},
	{"Get with a wrong k", []api.Kind{api.Text, api.List, api.Map}, func(h *heap.Heap, v api.Val) (bool, api.Errno) {
		x, e := object.Get(h, v, truth(3))
		return x == none, e
	}},
	{"Put", []api.Kind{api.List, api.Map}, func(h *heap.Heap, v api.Val) (bool, api.Errno) {
		return true, object.Put(h, v, num(0), num(1))
	}},
	{"Put with a wrong k and x", []api.Kind{api.List, api.Map}, func(h *heap.Heap, v api.Val) (bool, api.Errno) {
		return true, object.Put(h, v, truth(3), truth(3))
	}},
	{"Fn", []api.Kind{api.Func}, func(h *heap.Heap, v api.Val) (bool, api.Errno) {
		n, l, e := object.Fn(h, v)
		return n == 0 && len(l) == 0, e
	}},
	{"Cell", []api.Kind{api.Cell}, func(h *heap.Heap, v api.Val) (bool, api.Errno) {
		x, e := object.Cell(h, v)
		return x == none, e
	}},
	{"SetCell", []api.Kind{api.Cell}, func(h *heap.Heap, v api.Val) (bool, api.Errno) {
		return true, object.SetCell(h, v, num(1))
	}},
	{"SetCell with a wrong x", []api.Kind{api.Cell}, func(h *heap.Heap, v api.Val) (bool, api.Errno) {
		return true, object.SetCell(h, v, truth(3))
	}},
}

// refused asks all calls of a value for an error, beside nothing, and for a heap that stays.
func refused(t *testing.T, h *heap.Heap, v api.Val, want func(c taker) api.Errno) {
	t.Helper()
	stays(t, h, func() {
		t.Helper()
		for _, c := range takers {
			if zero, e := c.call(h, v); !zero || e != want(c) {
				t.Errorf("%s of %v: %d, zero values: %v, want %d", c.name, v, e, zero, want(c))
			}
		}
	})
}

// kindThenArg: ErrKind, if a call does not take the kind, else ErrArg.
func kindThenArg(v api.Val) func(taker) api.Errno {
	return func(c taker) api.Errno {
		if slices.Contains(c.kinds, v.Kind) {
			return api.ErrArg
		}
		return api.ErrKind
	}
}

// example is the chapter's H behind the first row of its examples.
func example(t *testing.T) *heap.Heap {
	t.Helper()
	h, _ := heap.New(60)
	v, e := object.NewText(h, "hello, you")
	wantVal(t, "NewText", v, e, text(0), api.OK)
	v, e = object.NewList(h, vals(num(1), text(0)))
	wantVal(t, "NewList", v, e, list(4), api.OK)
	v, e = object.NewMap(h, vals(num(1), num(2), num(1), num(3)))
	wantVal(t, "NewMap", v, e, table(12), api.OK)
	wantUsed(t, h, 24)
	return h
}

// P3.1 to P3.8: the chapter's examples
func TestExamples(t *testing.T) {
	h := example(t)
	wantText(t, h, text(0), "hello, you")
	wantItems(t, h, list(4), num(1), text(0))
	wantItems(t, h, table(12), num(1), num(3))
	wantLen(t, h, table(12), 1)
	wantGet(t, h, list(4), num(1), text(0), api.OK)
	wantGet(t, h, list(4), num(2), none, api.ErrArg)
	wantGet(t, h, list(4), truth(1), none, api.ErrKind)
	wantGet(t, h, table(12), num(7), none, api.OK)
	wantGet(t, h, text(0), num(1), text(24), api.OK)
	wantText(t, h, text(24), "e")
	wantPut(t, h, list(4), num(2), truth(1), api.OK)
	wantUsed(t, h, 36)
	wantPut(t, h, list(4), num(9), num(1), api.ErrArg)
	wantPut(t, h, table(12), num(1), none, api.OK)
	wantPut(t, h, table(12), num(5), num(6), api.OK)
	wantUsed(t, h, 36)
	wantItems(t, h, table(12), num(1), none, num(5), num(6))
	v, e := object.NewCell(h, num(5))
	wantVal(t, "NewCell", v, e, cell(36), api.OK)
	v, e = object.NewFn(h, 3, vals(cell(36)))
	wantVal(t, "NewFn", v, e, fn(39), api.OK)
	wantErr(t, "SetCell", object.SetCell(h, cell(36), list(4)), api.OK)
	v, e = object.Cell(h, cell(36))
	wantVal(t, "Cell", v, e, list(4), api.OK)
	v, e = object.NewCell(h, cell(36))
	wantVal(t, "NewCell", v, e, none, api.ErrArg)
	wantPlain(t, h, fn(39), fn(4),
		api.Obj{Kind: api.Text, S: "hello, you"},
		api.Obj{Kind: api.List, L: vals(num(1), text(1), truth(1)), Room: 4},
		api.Obj{Kind: api.Cell, L: vals(list(2))},
		api.Obj{Kind: api.Func, Fn: 3, L: vals(cell(3))})
	v, e = object.NewList(h, make([]api.Val, 20))
	wantVal(t, "NewList", v, e, none, api.ErrFull)
}

// P3.1 to P3.6: what the objects of the examples are, word for word
func TestLayout(t *testing.T) {
	h := example(t)
	m := must(t)
	m(object.NewFn(h, 9, vals(m(object.NewCell(h, truth(1))))))
	n := w(api.Int)
	wantHeap(t, h,
		obj{api.Text, []uint64{10, 0x79202c6f6c6c6568, 0x756f}},
		obj{api.List, []uint64{2, 8}},
		obj{api.Items, []uint64{n, 1, w(api.Text), 0}},
		obj{api.Map, []uint64{2, 16}},
		obj{api.Items, []uint64{n, 1, n, 3, 0, 0, 0, 0}},
		obj{api.Cell, []uint64{w(api.Bool), 1}},
		obj{api.Func, []uint64{9, w(api.Cell), 24}})
}

// R3: a heap that is not there, whatever else a call is handed
func TestNoHeap(t *testing.T) {
	long := strings.Repeat("a", api.MaxText+1)
	for _, h := range []*heap.Heap{nil, {}} {
		for _, x := range vals(none, num(5), truth(3), text(0), list(-1), table(0), fn(0), cell(0), items(0), api.Val{Kind: 200}) {
			for _, c := range takers {
				if zero, e := c.call(h, x); !zero || e != api.ErrNil {
					t.Errorf("%s of %v: %d", c.name, x, e)
				}
			}
			v, e := object.NewList(h, vals(x))
			wantVal(t, "NewList", v, e, none, api.ErrNil)
			v, e = object.NewMap(h, vals(x))
			wantVal(t, "NewMap", v, e, none, api.ErrNil)
			v, e = object.NewCell(h, x)
			wantVal(t, "NewCell", v, e, none, api.ErrNil)
			v, e = object.NewFn(h, -1, vals(x))
			wantVal(t, "NewFn", v, e, none, api.ErrNil)
			s, v, e := object.Plain(h, x)
			wantVal(t, "Plain", v, e, none, api.ErrNil)
			if len(s) != 0 || object.Same(h, x, x) {
				t.Errorf("of %v something is told: %v", x, s)
			}
		}
		v, e := object.NewText(h, long)
		wantVal(t, "NewText", v, e, none, api.ErrNil)
		v, e = object.NewText(h, "")
		wantVal(t, "NewText", v, e, none, api.ErrNil)
	}
}

// P3.1 to P3.8: kinds that a call does not take, and places that nothing of the kind begins at
func TestWrongValues(t *testing.T) {
	h := example(t)
	for k := range 256 {
		for _, n := range []int64{0, 1, 3, 4, 5, 7, 11, 12, 15, 23, 24, 60, -1, math.MinInt64, math.MaxInt64, 1 << 32} {
			v := api.Val{Kind: api.Kind(k), N: n}
			if v == text(0) || v == list(4) || v == table(12) {
				continue
			}
			refused(t, h, v, kindThenArg(v))
			if v.Kind >= api.Text || v.Kind == api.Nil && n != 0 || v.Kind == api.Bool && n != 0 && n != 1 {
				stays(t, h, func() { noPlain(t, h, v) })
			} else {
				wantPlain(t, h, v, v)
			}
		}
	}
}

// unfit are objects that may not be: each is the last one of the heap, behind Items of 4 words at 0, Items of 5 at 5 and a Text at 11.
var unfit = []obj{
	{api.Text, nil},
	{api.Text, []uint64{1}},
	{api.Text, []uint64{0, 0}},
	{api.Text, []uint64{8}},
	{api.Text, []uint64{8, 0, 0}},
	{api.Text, []uint64{9, 0}},
	{api.Text, []uint64{16, 0, 0, 0}},
	{api.Text, []uint64{math.MaxUint64}},
	{api.Text, []uint64{math.MaxUint64 - 6, 0}},
	{api.Text, []uint64{1 << 63}},
	{api.Text, []uint64{1<<32 + 1, 0}},
	{api.Text, append([]uint64{api.MaxText + 1}, make([]uint64, api.MaxText/8+1)...)},
	{api.List, nil},
	{api.List, []uint64{0}},
	{api.List, []uint64{0, 0, 0}},
	{api.List, []uint64{0, 1, 0}},
	{api.List, []uint64{1, 0}},
	{api.List, []uint64{3, 1}},
	{api.List, []uint64{2, 6}},
	{api.List, []uint64{0, 6}},
	{api.List, []uint64{0, 2}},
	{api.List, []uint64{0, 5}},
	{api.List, []uint64{0, 12}},
	{api.List, []uint64{0, 14}},
	{api.List, []uint64{0, 1000}},
	{api.List, []uint64{0, math.MaxUint64}},
	{api.List, []uint64{0, 1<<63 + 1}},
	{api.List, []uint64{0, 1<<32 + 1}},
	{api.List, []uint64{1 << 63, 1}},
	{api.List, []uint64{1 << 62, 1}},
	{api.List, []uint64{math.MaxUint64, 1}},
	{api.List, []uint64{api.MaxItems + 1, 1}},
	{api.Map, nil},
	{api.Map, []uint64{0}},
	{api.Map, []uint64{0, 0, 0}},
	{api.Map, []uint64{2, 0}},
	{api.Map, []uint64{1, 1}},
	{api.Map, []uint64{3, 1}},
	{api.Map, []uint64{4, 1}},
	{api.Map, []uint64{2, 6}},
	{api.Map, []uint64{0, 12}},
	{api.Map, []uint64{0, math.MaxUint64}},
	{api.Map, []uint64{1 << 63, 1}},
	{api.Map, []uint64{2*api.MaxItems + 2, 1}},
	{api.Func, nil},
	{api.Func, []uint64{0, 0}},
	{api.Func, []uint64{0, 0, 0, 0}},
	{api.Func, []uint64{1<<62 + 1}},
	{api.Func, []uint64{1 << 63}},
	{api.Func, []uint64{math.MaxUint64, 0, 0}},
	{api.Cell, nil},
	{api.Cell, []uint64{0}},
	{api.Cell, []uint64{0, 0, 0}},
	{api.Cell, []uint64{w(api.Int), 1, 0, 0}},
}

// behind lays an object behind those that unfit tells.
func behind(t *testing.T, o obj) (*heap.Heap, api.Val) {
	t.Helper()
	h := lay(t, 2000, obj{api.Items, make([]uint64, 4)}, obj{api.Items, make([]uint64, 5)}, obj{api.Text, []uint64{0}}, o)
	return h, api.Val{Kind: o.kind, N: 13}
}

// P3.1 to P3.8: objects that may not be
func TestUnfit(t *testing.T) {
	for i, o := range unfit {
		h, v := behind(t, o)
		refused(t, h, v, kindThenArg(v))
		stays(t, h, func() { noPlain(t, h, v) })
		if !object.Same(h, v, v) || object.Same(h, v, api.Val{Kind: o.kind, N: 11}) {
			t.Errorf("row %d: Same", i)
		}
		if t.Failed() {
			t.Fatalf("row %d: %v", i, o)
		}
	}
}

// P3.2, P3.3, P3.6, P3.8: a value may be held, whatever the object that it leads to is like; but Plain asks for all
func TestUnfitHeld(t *testing.T) {
	for i, o := range unfit {
		h, v := behind(t, o)
		m := must(t)
		var holders []api.Val
		if o.kind == api.Cell {
			holders = vals(m(object.NewFn(h, 0, vals(v))))
		} else {
			holders = vals(m(object.NewList(h, vals(v))), m(object.NewMap(h, vals(v, none))), m(object.NewMap(h, vals(none, v))), m(object.NewCell(h, v)))
		}
		for _, x := range holders {
			noPlain(t, h, x)
			if x.Kind != api.Cell {
				noPlain(t, h, m(object.NewList(h, vals(num(1), x))))
			}
		}
		if t.Failed() {
			t.Fatalf("row %d: %v", i, o)
		}
	}
}

// P3.8 and the chapter's table: objects that may just be
func TestFit(t *testing.T) {
	for i, c := range []struct {
		o    obj
		want api.Obj
	}{
		{obj{api.Text, []uint64{0}}, api.Obj{}},
		{obj{api.Text, []uint64{1, math.MaxUint64}}, api.Obj{S: "\xff"}},
		{obj{api.Text, []uint64{7, 0x6867666564636261}}, api.Obj{S: "abcdefg"}},
		{obj{api.Text, []uint64{8, 0x6867666564636261}}, api.Obj{S: "abcdefgh"}},
		{obj{api.Text, []uint64{9, 0x6867666564636261, 0x6169}}, api.Obj{S: "abcdefghi"}},
		{obj{api.Text, append([]uint64{api.MaxText}, make([]uint64, api.MaxText/8)...)}, api.Obj{S: string(make([]byte, api.MaxText))}},
		{obj{api.List, []uint64{0, 0}}, api.Obj{}},
		{obj{api.List, []uint64{0, 1}}, api.Obj{Room: 2}},
		{obj{api.List, []uint64{1, 1}}, api.Obj{L: vals(none), Room: 2}},
		{obj{api.List, []uint64{2, 1}}, api.Obj{L: vals(none, none), Room: 2}},
		{obj{api.Map, []uint64{0, 0}}, api.Obj{}},
		{obj{api.Map, []uint64{0, 1}}, api.Obj{Room: 2}},
		{obj{api.Map, []uint64{2, 1}}, api.Obj{L: vals(none, none), Room: 2}},
		{obj{api.Func, []uint64{0}}, api.Obj{}},
		{obj{api.Func, []uint64{1 << 62}}, api.Obj{Fn: 1 << 62}},
		{obj{api.Cell, []uint64{0, 0}}, api.Obj{L: vals(none)}},
		{obj{api.Cell, []uint64{w(api.Int), math.MaxUint64}}, api.Obj{L: vals(num(-1))}},
		{obj{api.Cell, []uint64{256, 7}}, api.Obj{L: vals(none)}},
		{obj{api.Cell, []uint64{1<<63 + w(api.Text), 7}}, api.Obj{L: vals(none)}},
	} {
		h, v := behind(t, c.o)
		c.want.Kind = c.o.kind
		stays(t, h, func() {
			wantPlain(t, h, v, api.Val{Kind: v.Kind, N: 1}, c.want)
			for _, call := range takers {
				_, e := call.call(h, v)
				if slices.Contains([]string{"Text", "Items", "Len", "Fn", "Cell"}, call.name) && slices.Contains(call.kinds, v.Kind) {
					wantErr(t, call.name, e, api.OK)
				}
				if call.name == "Len" {
					break // those behind it change the heap
				}
			}
		})
		if t.Failed() {
			t.Fatalf("row %d: %v", i, c.o)
		}
	}
}
