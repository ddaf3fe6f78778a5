package show_test

import (
	"fmt"
	"slices"
	"strings"
	"testing"

	"gearbox/api"
	"gearbox/show"
)

var (
	none = api.Val{}
	no   = api.Val{Kind: api.Bool}
	yes  = api.Val{Kind: api.Bool, N: 1}
)

func val(k api.Kind, n int64) api.Val { return api.Val{Kind: k, N: n} }

func num(n int64) api.Val  { return val(api.Int, n) }
func text(n int64) api.Val { return val(api.Text, n) }
func list(n int64) api.Val { return val(api.List, n) }
func dict(n int64) api.Val { return val(api.Map, n) }
func fn(n int64) api.Val   { return val(api.Func, n) }
func cell(n int64) api.Val { return val(api.Cell, n) }

// An object with just the room that its values need.
func says(s string) api.Obj            { return api.Obj{Kind: api.Text, S: s} }
func listOf(l ...api.Val) api.Obj      { return api.Obj{Kind: api.List, L: l, Room: len(l)} }
func mapOf(l ...api.Val) api.Obj       { return api.Obj{Kind: api.Map, L: l, Room: len(l)} }
func fnOf(n int, l ...api.Val) api.Obj { return api.Obj{Kind: api.Func, L: l, Fn: n} }
func cellOf(l ...api.Val) api.Obj      { return api.Obj{Kind: api.Cell, L: l} }

// examples is the store of the chapter's examples.
func examples() api.Store {
	return api.Store{
		says("hi"),
		{Kind: api.List, L: []api.Val{num(1), text(1)}, Room: 4},
		{Kind: api.Map, L: []api.Val{text(1), list(2)}, Room: 8},
		cellOf(list(2)),
		fnOf(7, cell(4)),
		listOf(list(6)),
	}
}

// brief is something as text, cut where it is long: stores may be great.
func brief(x any) string { return fmt.Sprintf("%.1500s", fmt.Sprint(x)) }

// copyOf is a store with new lists, their spare room too.
func copyOf(s api.Store) api.Store {
	c := slices.Clone(s)
	for i, o := range s {
		c[i].L = slices.Clone(o.L[:cap(o.L)])[:len(o.L)]
	}
	return c
}

func sameStores(a, b api.Store) bool {
	return slices.EqualFunc(a, b, func(o, p api.Obj) bool {
		return o.Kind == p.Kind && o.S == p.S && o.Room == p.Room && o.Fn == p.Fn && len(o.L) == len(p.L) && slices.Equal(o.L[:cap(o.L)], p.L[:cap(o.L)])
	})
}

// stays asks that what is done leaves a store as it was. (R4)
func stays(t *testing.T, s api.Store, do func()) {
	t.Helper()
	before := copyOf(s)
	do()
	if !sameStores(s, before) {
		t.Errorf("the store was changed: %s, want %s", brief(s), brief(before))
	}
}

// wantText asks for a text that is not too long.
func wantText(t *testing.T, s api.Store, v api.Val, want string) {
	t.Helper()
	stays(t, s, func() {
		if got, ok := show.Text(s, v); got != want || !ok {
			t.Errorf("Text(%s, %v) = %s, %v, want %s", brief(s), v, brief(got), ok, brief(want))
		}
	})
}

// wantLong asks for a text that is too long.
func wantLong(t *testing.T, s api.Store, v api.Val) {
	t.Helper()
	stays(t, s, func() {
		if got, ok := show.Text(s, v); got != "" || ok {
			t.Errorf("Text(%s, %v) = %s, %v, want false", brief(s), v, brief(got), ok)
		}
	})
}

func wantCheck(t *testing.T, s api.Store, v api.Val, want bool) {
	t.Helper()
	stays(t, s, func() {
		if got := show.Check(s, v); got != want {
			t.Errorf("Check(%s, %v) = %v", brief(s), v, got)
		}
	})
}

func wantWords(t *testing.T, s api.Store, want int, roots ...api.Val) {
	t.Helper()
	before := slices.Clone(roots)
	stays(t, s, func() {
		if got := show.Words(s, roots); got != want {
			t.Errorf("Words(%s, %v) = %d, want %d", brief(s), brief(roots), got, want)
		}
	})
	if !slices.Equal(roots, before) {
		t.Errorf("the roots were changed: %v, want %v", brief(roots), brief(before))
	}
}

// The chapter's examples.
func TestExamples(t *testing.T) {
	s := examples()
	wantText(t, s, none, "nil")
	wantText(t, s, yes, "yes")
	wantText(t, s, num(-5), "-5")
	wantText(t, s, text(1), "hi")
	wantText(t, s, list(2), "[1, hi]")
	wantText(t, s, dict(3), "{hi: [1, hi]}")
	wantText(t, s, fn(5), "fn 7")
	wantText(t, s, cell(4), "?")
	wantText(t, s, list(1), "?")
	wantText(t, s, text(9), "?")
	wantText(t, s, list(6), "[[[[[[[[[..]]]]]]]]]")
	wantLong(t, api.Store{listOf(slices.Repeat([]api.Val{num(0)}, 5000)...)}, list(1))
	wantCheck(t, s, fn(5), true)
	wantCheck(t, s, cell(4), true)
	wantCheck(t, s, val(api.Bool, 2), false)
	wantCheck(t, s, text(9), false)
	wantWords(t, s, 3, text(1))
	wantWords(t, s, 15, list(2))
	wantWords(t, s, 22, fn(5), text(1))
	wantWords(t, s, 6, list(6))
	wantWords(t, s, 0, num(5))
}

// R1, R4: a store without objects, empty or nil.
func TestNoObjects(t *testing.T) {
	for _, s := range []api.Store{nil, {}} {
		wantText(t, s, none, "nil")
		wantText(t, s, num(12), "12")
		wantCheck(t, s, none, true)
		wantCheck(t, s, num(12), true)
		wantWords(t, s, 0)
		for k := api.Text; k < 20; k++ {
			for n := int64(-1); n < 3; n++ {
				wantText(t, s, val(k, n), "?")
				wantCheck(t, s, val(k, n), false)
				wantWords(t, s, 0, val(k, n))
			}
		}
	}
}

// P4.4: what was asked for keeps nothing that a later call could tell (R5), and the same objects in another order show the same.
func TestOrder(t *testing.T) {
	s := examples()
	r := api.Store{
		listOf(list(1)),
		fnOf(7, cell(3)),
		cellOf(list(5)),
		{Kind: api.Map, L: []api.Val{text(6), list(5)}, Room: 8},
		{Kind: api.List, L: []api.Val{num(1), text(6)}, Room: 4},
		says("hi"),
	}
	for n, o := range s {
		v, w := val(o.Kind, int64(n)+1), val(o.Kind, int64(len(s)-n))
		a, ok := show.Text(s, v)
		if b, same := show.Text(r, w); a != b || ok != same {
			t.Errorf("Text(%v) = %s, %v, in another order %s, %v", v, a, ok, b, same)
		}
		wantCheck(t, r, w, show.Check(s, v))
		wantWords(t, r, show.Words(s, []api.Val{v}), w)
	}
}

// chain: so many objects, each holding the next one; the last one holds itself.
func chain(n int, make func(next int64) api.Obj) api.Store {
	var s api.Store
	for i := range n {
		s = append(s, make(int64(min(i+2, n))))
	}
	return s
}

// R1: objects within one another by the hundred thousand, and lists that come to more items than could be gone through.
func TestDeepAndWide(t *testing.T) {
	const n = 300000
	deep := chain(n, func(next int64) api.Obj { return listOf(list(next)) })
	wantText(t, deep, list(1), strings.Repeat("[", 9)+".."+strings.Repeat("]", 9))
	wantCheck(t, deep, list(1), true)
	wantWords(t, deep, 6*n, list(1))
	deep[n-1].Fn = 1
	wantCheck(t, deep, list(1), false)

	wide := api.Store{listOf(slices.Repeat([]api.Val{list(1)}, api.MaxItems)...)}
	wantLong(t, wide, list(1))
	wantCheck(t, wide, list(1), true)
	wantWords(t, wide, 3+1+2*api.MaxItems, list(1))
}
