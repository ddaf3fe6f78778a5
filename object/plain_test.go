package object_test

import (
	"testing"

	"gearbox/api"
	"gearbox/heap"
	"gearbox/object"
)

// P3.8: values that are no objects
func TestPlainValues(t *testing.T) {
	h := example(t)
	for _, v := range vals(none, truth(0), truth(1), num(0), num(-9), num(4)) {
		wantPlain(t, h, v, v)
	}
	for _, v := range vals(api.Val{N: 1}, truth(2), truth(-1), items(7), api.Val{Kind: 9}) {
		noPlain(t, h, v)
	}
}

// P3.8: objects by rising places, whichever is come to first, each once; what leads in a circle
func TestPlainOrder(t *testing.T) {
	h, _ := heap.New(200)
	m := must(t)
	s := m(object.NewText(h, "s"))
	m(object.NewText(h, "not led to"))
	a := m(object.NewList(h, vals(s, s)))
	c := m(object.NewCell(h, a))
	f := m(object.NewFn(h, 2, vals(c, c)))
	d := m(object.NewMap(h, vals(f, a, s, none)))
	wantPut(t, h, a, num(0), d, api.OK)
	wantPut(t, h, a, num(2), a, api.OK)
	wantErr(t, "SetCell", object.SetCell(h, c, f), api.OK)
	want := []api.Obj{
		{Kind: api.Text, S: "s"},
		{Kind: api.List, L: vals(table(5), text(1), list(2)), Room: 4},
		{Kind: api.Cell, L: vals(fn(4))},
		{Kind: api.Func, Fn: 2, L: vals(cell(3), cell(3))},
		{Kind: api.Map, L: vals(fn(4), list(2), text(1), none), Room: 4},
	}
	wantPlain(t, h, a, list(2), want...)
	wantPlain(t, h, d, table(5), want...)
	wantPlain(t, h, c, cell(1), api.Obj{Kind: api.Cell, L: vals(fn(2))}, api.Obj{Kind: api.Func, Fn: 2, L: vals(cell(1), cell(1))})
	wantPlain(t, h, s, text(1), want[0])
}

// P3.8: a value that its object may not have, wherever it stands
func TestPlainUnheld(t *testing.T) {
	n := w(api.Int)
	for i, c := range []struct {
		kind uint64
		n    uint64
		ok   bool // may it be held?
		cell bool // is it a Cell that leads to a Cell?
	}{
		{0, 0, true, false}, {0, 1, false, false}, {w(api.Bool), 1, true, false}, {w(api.Bool), 2, false, false}, {n, 1 << 63, true, false},
		{w(api.Text), 0, true, false}, {w(api.Text), 1, false, false}, {w(api.Text), 2, false, false}, {w(api.List), 0, false, false},
		{w(api.Cell), 2, false, true}, {w(api.Cell), 0, false, false}, {w(api.Cell), 3, false, false}, {w(api.Items), 5, false, false}, {200, 0, false, false}, {300, 0, true, false}, {300, 7, true, false},
	} {
		h := lay(t, 100,
			obj{api.Text, []uint64{0}},                  // 0
			obj{api.Cell, []uint64{0, 0}},               // 2
			obj{api.Items, []uint64{n, 1, c.kind, c.n}}, // 5
			obj{api.Items, []uint64{c.kind, c.n, n, 1}}, // 10
			obj{api.List, []uint64{2, 6}},               // 15
			obj{api.Map, []uint64{2, 6}},                // 18
			obj{api.Map, []uint64{2, 11}},               // 21
			obj{api.Cell, []uint64{c.kind, c.n}},        // 24
			obj{api.Func, []uint64{0, c.kind, c.n}},     // 27
			obj{api.List, []uint64{1, 6}},               // 31: its values do not reach so far
			obj{api.Cell, []uint64{w(api.List), 15}},    // 34: and one deeper
			obj{api.Func, []uint64{0, w(api.Cell), 34}}) // 37
		ask := func(v api.Val, ok bool) {
			t.Helper()
			if _, _, e := object.Plain(h, v); (e == api.OK) != ok {
				t.Errorf("row %d: Plain(%v): %d", i, v, e)
			}
		}
		stays(t, h, func() {
			for _, v := range vals(list(15), table(18), table(21), cell(24), cell(34), fn(37)) {
				ask(v, c.ok)
			}
			ask(fn(27), c.cell)
			wantPlain(t, h, list(31), list(1), api.Obj{Kind: api.List, L: vals(num(1)), Room: 2})
		})
	}
}

// P3.8: Items that are spare lead nowhere
func TestPlainSpare(t *testing.T) {
	h := lay(t, 100,
		obj{api.Text, []uint64{9}}, // may not be
		obj{api.Text, []uint64{0}},
		obj{api.Items, []uint64{w(api.Int), 1, w(api.Text), 0, w(api.Text), 2, 9, 9}},
		obj{api.List, []uint64{1, 5}})
	wantPlain(t, h, list(13), list(1), api.Obj{Kind: api.List, L: vals(num(1)), Room: 4})
}

// P3.8: Lists that have one Items object
func TestPlainShared(t *testing.T) {
	h := lay(t, 100, obj{api.Items, []uint64{w(api.List), 5, w(api.Map), 8}}, obj{api.List, []uint64{2, 1}}, obj{api.Map, []uint64{2, 1}})
	want := []api.Obj{{Kind: api.List, L: vals(list(1), table(2)), Room: 2}, {Kind: api.Map, L: vals(list(1), table(2)), Room: 2}}
	wantPlain(t, h, table(8), table(2), want...)
	s, _, _ := object.Plain(h, list(5))
	s[0].L[0] = num(3)
	if s[1].L[0] != list(1) {
		t.Error("two lists of one answer share memory")
	}
	l := s[0].L[:cap(s[0].L)]
	for i := range l {
		l[i] = num(4)
	}
	wantPlain(t, h, table(8), table(2), want...)
}

// R1, P3.8: objects within one another as deep as can be
func TestPlainDeep(t *testing.T) {
	h, _ := heap.New(api.MaxWords)
	v := none
	n := 0
	for {
		x, e := object.NewList(h, vals(v))
		if e != api.OK {
			break
		}
		v = x
		n++
	}
	s, x, e := object.Plain(h, v)
	if e != api.OK || len(s) != n || x != list(int64(n)) {
		t.Fatalf("Plain: %d objects, %v, %d, want %d", len(s), x, e, n)
	}
	for i, o := range s {
		if i > 0 && o.L[0] != list(int64(i)) {
			t.Fatalf("the object %d: %v", i, o)
		}
	}
}
