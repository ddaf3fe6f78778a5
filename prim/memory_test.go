package prim_test

import (
	"slices"
	"testing"
	"unsafe"

	"gearbox/api"
	"gearbox/prim"
)

// span: from where to where something is in memory, its spare room too.
type span [2]uintptr

func spanOf[T any](l []T) span {
	var x T
	at := uintptr(unsafe.Pointer(unsafe.SliceData(l)))
	return span{at, at + uintptr(cap(l))*unsafe.Sizeof(x)}
}

func spanOfText(s string) span {
	at := uintptr(unsafe.Pointer(unsafe.StringData(s)))
	return span{at, at + uintptr(len(s))}
}

// spans: where a store, its lists and its texts are.
func spans(s api.Store) []span {
	l := []span{spanOf(s)}
	for _, o := range s {
		l = append(l, spanOf(o.L), spanOfText(o.S))
	}
	return l
}

// meetAny: do two of these share memory?
func meetAny(l []span) bool {
	l = slices.DeleteFunc(l, func(s span) bool { return s[0] == s[1] })
	slices.SortFunc(l, func(a, b span) int { return slices.Compare(a[:], b[:]) })
	for i := range l[min(1, len(l)):] {
		if l[i+1][0] < l[i][1] {
			return true
		}
	}
	return false
}

// sharesMemory: does an answer share any, within itself or with what was handed in?
func sharesMemory(answer, s api.Store, c call) bool {
	own := spans(answer)
	if meetAny(slices.Clone(own)) {
		return true
	}
	given := append(spans(s), spanOf(c.vals), spanOfText(c.text))
	given = slices.DeleteFunc(given, func(g span) bool { return g[0] == g[1] })
	slices.SortFunc(given, func(a, b span) int { return slices.Compare(a[:], b[:]) })
	return slices.ContainsFunc(own, func(o span) bool {
		if o[0] == o[1] {
			return false
		}
		i, _ := slices.BinarySearchFunc(given, o[0], func(g span, at uintptr) int {
			if g[1] <= at {
				return -1
			}
			return 1
		})
		return i < len(given) && given[i][0] < o[1]
	})
}

// roomy: a list with spare room in which something stands.
func roomy[T any](l []T, x T) []T {
	n := len(l)
	return append(slices.Clone(l), x, x, x)[:n]
}

// roomyStore: a store in memory of its own, with texts of their own.
func roomyStore(s api.Store) api.Store {
	s = roomy(s, api.Obj{Kind: api.Text, S: "spare"})
	for i, o := range s {
		s[i].L = roomy(o.L, val(api.Int, 77))
		s[i].S = string([]byte(o.S))
	}
	return s
}

// whole: a copy of a store with its spare room as part of it.
func whole(s api.Store) api.Store {
	s = slices.Clone(s[:cap(s)])
	for i, o := range s {
		s[i].L = slices.Clone(o.L[:cap(o.L)])
	}
	return s
}

// P11.5, R4: whatever is done with an answer, what was handed in, and other answers, stay as they are.
func TestAnswersApart(t *testing.T) {
	for _, c := range append(wholeCalls(num(1)), append(wholeCalls(list(2)), newText("new"), put(list(8), num(0), dict(3)), put(dict(9), text(6), none))...) {
		s := zoo()
		first, second := c.on(s), c.on(s)
		for _, o := range first.Store[:cap(first.Store)] {
			l := o.L[:cap(o.L)]
			for i := range l {
				l[i] = val(99, 99)
			}
		}
		clear(first.Store[:cap(first.Store)])
		if !sameStores(s, zoo()) {
			t.Fatalf("%s: the store was changed", brief(c))
		}
		if third := c.on(s); !sameDid(second, third) {
			t.Fatalf("%s: %s, and then %s", brief(c), brief(second), brief(third))
		}
	}
}

// R4: empty and nil mean the same.
func TestEmpty(t *testing.T) {
	for _, s := range []api.Store{nil, {}} {
		for _, l := range [][]api.Val{nil, {}} {
			wantMade(t, s, row("List", l...), listOf(), 3)
			wantMade(t, s, row("Map", l...), mapOf(), 3)
			wantMade(t, s, newFn(0, l...), fnOf(0), 2)
			wantMade(t, append(s, api.Obj{Kind: api.List, L: l}, api.Obj{Kind: api.Func, L: l}), one("Cell", list(1)), cellOf(list(1)), 3)
			wantPut(t, api.Store{{Kind: api.List, L: l}}, put(list(1), num(0), no), 1, with(4, listOf(no)), 9)
			wantPut(t, api.Store{{Kind: api.Map, L: l}}, put(dict(1), num(0), no), 1, with(8, mapOf(num(0), no)), 17)
		}
		wantVal(t, s, bin(api.Add, num(1), num(1)), num(2))
		wantThrown(t, s, one("Len", num(1)), "kind")
	}
}

// R5: what is done one behind the other hangs on the store alone.
func TestOneBehindTheOther(t *testing.T) {
	d := prim.List(nil, nil)
	l := d.Val
	for i := range 9 {
		d = prim.Put(d.Store, l, num(int64(i)), num(int64(i*i)))
	}
	d = prim.Put(d.Store, l, num(3), l)
	d = prim.Text(d.Store, "k")
	d = prim.Map(d.Store, []api.Val{d.Val, l})
	m := d.Val
	d = prim.Cell(d.Store, m)
	d = prim.Fn(d.Store, 200, []api.Val{d.Val, d.Val})
	d = prim.Put(d.Store, m, d.Val, none)
	if w := (api.Store{with(16, listOf(num(0), num(1), num(4), list(1), num(16), num(25), num(36), num(49), num(64))), says("k"), with(8, mapOf(text(2), list(1), fn(5), none)), cellOf(dict(3)), fnOf(200, cell(4), cell(4))}); !sameStores(d.Store, w) {
		t.Errorf("%s, want %s", brief(d.Store), brief(w))
	}
}
