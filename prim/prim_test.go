package prim_test

import (
	"fmt"
	"reflect"
	"slices"
	"testing"

	"gearbox/api"
	"gearbox/prim"
)

var (
	none = api.Val{}
	no   = api.Val{Kind: api.Bool}
	yes  = api.Val{Kind: api.Bool, N: 1}
)

func val(k api.Kind, n int64) api.Val { return api.Val{Kind: k, N: n} }

func num(n int64) api.Val  { return val(api.Int, n) }
func text(n int64) api.Val { return val(api.Text, n) }
func list(n int64) api.Val { return val(api.List, n) }
func dict(n int64) api.Val { return val(api.Map, n) }
func fn(n int64) api.Val   { return val(api.Func, n) }
func cell(n int64) api.Val { return val(api.Cell, n) }

// An object with just the room that its values need.
func says(s string) api.Obj            { return api.Obj{Kind: api.Text, S: s} }
func listOf(l ...api.Val) api.Obj      { return api.Obj{Kind: api.List, L: l, Room: len(l)} }
func mapOf(l ...api.Val) api.Obj       { return api.Obj{Kind: api.Map, L: l, Room: len(l)} }
func fnOf(n int, l ...api.Val) api.Obj { return api.Obj{Kind: api.Func, L: l, Fn: n} }
func cellOf(l ...api.Val) api.Obj      { return api.Obj{Kind: api.Cell, L: l} }

// with: an object that has another Room.
func with(room int, o api.Obj) api.Obj {
	o.Room = room
	return o
}

// call is a call of prim.
type call struct {
	op   string // the function's name
	bin  api.Bin
	text string
	fn   int
	vals []api.Val
}

func bin(op api.Bin, a, b api.Val) call  { return call{op: "Bin", bin: op, vals: []api.Val{a, b}} }
func one(op string, a api.Val) call      { return call{op: op, vals: []api.Val{a}} }
func newText(s string) call              { return call{op: "Text", text: s} }
func row(op string, l ...api.Val) call   { return call{op: op, vals: l} }
func newFn(n int, cells ...api.Val) call { return call{op: "Fn", fn: n, vals: cells} }
func get(v, k api.Val) call              { return call{op: "Get", vals: []api.Val{v, k}} }
func put(v, k, x api.Val) call           { return call{op: "Put", vals: []api.Val{v, k, x}} }

func (c call) on(s api.Store) prim.Did {
	v := c.vals
	switch c.op {
	case "Bin":
		return prim.Bin(s, c.bin, v[0], v[1])
	case "Not":
		return prim.Not(s, v[0])
	case "Neg":
		return prim.Neg(s, v[0])
	case "Len":
		return prim.Len(s, v[0])
	case "Show":
		return prim.Show(s, v[0])
	case "Text":
		return prim.Text(s, c.text)
	case "List":
		return prim.List(s, v)
	case "Map":
		return prim.Map(s, v)
	case "Cell":
		return prim.Cell(s, v[0])
	case "Fn":
		return prim.Fn(s, c.fn, v)
	case "Get":
		return prim.Get(s, v[0], v[1])
	}
	return prim.Put(s, v[0], v[1], v[2])
}

// brief is something as text, cut where it is long: stores may be great.
func brief(x any) string {
	if d, ok := x.(prim.Did); ok {
		return fmt.Sprintf("%v %q %d words %s", d.Val, d.Thrown, d.Words, brief(d.Store))
	}
	return fmt.Sprintf("%.400s", fmt.Sprint(x))
}

func sameStores(a, b api.Store) bool {
	return slices.EqualFunc(a, b, func(o, p api.Obj) bool {
		return o.Kind == p.Kind && o.S == p.S && o.Room == p.Room && o.Fn == p.Fn && slices.Equal(o.L, p.L)
	})
}

func sameDid(a, b prim.Did) bool {
	return sameStores(a.Store, b.Store) && a.Val == b.Val && a.Thrown == b.Thrown && a.Words == b.Words
}

// do: what a call comes to, and that it changes and keeps nothing of what it is handed (R4), and comes to the same once more (R5).
func do(t *testing.T, s api.Store, c call) prim.Did {
	t.Helper()
	s = roomyStore(s)
	c.vals = roomy(c.vals, val(api.Map, 77))
	oldStore, oldVals := whole(s), slices.Clone(c.vals[:cap(c.vals)])
	d := c.on(s)
	if !reflect.DeepEqual(whole(s), oldStore) || !slices.Equal(c.vals[:cap(c.vals)], oldVals) {
		t.Errorf("%s of %s: what was handed in was changed", brief(c), brief(s))
	}
	if sharesMemory(d.Store, s, c) {
		t.Errorf("%s of %s: memory is shared", brief(c), brief(s))
	}
	if again := c.on(s); !sameDid(d, again) {
		t.Errorf("%s of %s: %s, and then %s", brief(c), brief(s), brief(d), brief(again))
	}
	return d
}

// want asks what a call comes to.
func want(t *testing.T, s api.Store, c call, w prim.Did) {
	t.Helper()
	if d := do(t, s, c); !sameDid(d, w) {
		t.Errorf("%s of %s: %s, want %s", brief(c), brief(s), brief(d), brief(w))
	}
}

func wantThrown(t *testing.T, s api.Store, c call, thrown string) {
	t.Helper()
	want(t, s, c, prim.Did{Store: s, Thrown: thrown})
}

func wantVal(t *testing.T, s api.Store, c call, v api.Val) {
	t.Helper()
	want(t, s, c, prim.Did{Store: s, Val: v})
}

// wantMade asks for a new object.
func wantMade(t *testing.T, s api.Store, c call, o api.Obj, words int) {
	t.Helper()
	want(t, s, c, prim.Did{Store: append(slices.Clone(s), o), Val: val(o.Kind, int64(len(s))+1), Words: words})
}

// wantPut asks that the object of a number is another one, and all others are as they were.
func wantPut(t *testing.T, s api.Store, c call, n int64, o api.Obj, words int) {
	t.Helper()
	w := slices.Clone(s)
	w[n-1] = o
	want(t, s, c, prim.Did{Store: w, Words: words})
}

// The chapter's examples.
func TestExamples(t *testing.T) {
	s := api.Store{says("a"), says("b"), says("a"), listOf(num(1), num(2)), listOf(), listOf()}
	wantVal(t, s, bin(api.Add, num(2), num(3)), num(5))
	wantMade(t, s, bin(api.Add, text(1), text(2)), says("ab"), 3)
	wantThrown(t, s, bin(api.Add, num(2), text(1)), "kind")
	wantVal(t, s, bin(api.Div, num(-7), num(2)), num(-3))
	wantVal(t, s, bin(api.Mod, num(-7), num(2)), num(-1))
	wantThrown(t, s, bin(api.Div, num(1), num(0)), "zero")
	wantMade(t, nil, row("List", num(1), num(2)), listOf(num(1), num(2)), 8)
	wantVal(t, s, get(list(4), num(1)), num(2))
	wantThrown(t, s, get(list(4), num(2)), "bounds")
	wantPut(t, s, put(list(4), num(2), num(9)), 4, with(4, listOf(num(1), num(2), num(9))), 9)
	wantVal(t, s, bin(api.Same, num(1), num(1)), yes)
	wantVal(t, s, bin(api.Same, text(1), text(3)), yes)
	wantVal(t, s, bin(api.Same, list(5), list(6)), no)
}

// zoo: an object of each kind, and what they hold.
func zoo() api.Store {
	return api.Store{
		says("ab"),                             // 1
		listOf(num(1), text(1), list(2)),       // 2
		mapOf(text(1), list(2), none, dict(3)), // 3
		fnOf(7, cell(5)),                       // 4
		cellOf(fn(4)),                          // 5
		says("ab"),                             // 6
		says(""),                               // 7
		listOf(),                               // 8
		mapOf(),                                // 9
		fnOf(7, cell(5)),                       // 10
	}
}

// animals: values of every kind that may be in the zoo.
func animals() []api.Val {
	return []api.Val{none, no, yes, num(0), num(1), num(-1), num(2), text(1), text(6), text(7), list(2), list(8), dict(3), dict(9), fn(4), fn(10)}
}

// ghosts: values that may not be in the zoo, or that are cells.
func ghosts() []api.Val {
	return []api.Val{
		val(api.Nil, 1), val(api.Bool, 2), val(api.Bool, -1), val(api.Items, 1), val(9, 1), val(255, 0), cell(5), cell(1), cell(0),
		text(0), text(-1), text(2), text(11), list(1), list(11), list(12), dict(2), dict(11), fn(5), fn(11), text(1 << 40), list(-1 << 63), dict(1<<63 - 1),
	}
}

// wholeCalls: a call of each function, of these values, others being the first ones of all kinds.
func wholeCalls(a api.Val) []call {
	var l []call
	for op := range api.Bin(12) {
		for _, b := range animals() {
			l = append(l, bin(op, a, b), bin(op, b, a))
		}
		l = append(l, bin(op, a, a))
	}
	for _, op := range []string{"Not", "Neg", "Len", "Show", "Cell"} {
		l = append(l, one(op, a))
	}
	for _, b := range animals() {
		l = append(l, row("List", a), row("List", a, b), row("List", b, a), row("Map", a, b), row("Map", b, a), row("Map", a, b, b, a), row("Map", b, b, b, a, b, b), get(a, b), get(b, a))
		for _, c := range []api.Val{none, num(0), num(3), text(6), list(2), dict(9)} {
			l = append(l, put(a, b, c), put(b, a, c), put(b, c, a))
		}
	}
	return append(l, newFn(3, a), newFn(3, cell(5), a), newFn(3, a, cell(5)))
}

// P11.1 to P11.4: each operation on values of every kind.
func TestEveryKind(t *testing.T) {
	thrown := map[string]int{}
	for _, a := range animals() {
		for _, c := range wholeCalls(a) {
			thrown[alike(t, zoo(), c).Thrown]++
		}
	}
	for _, text := range []string{"", "kind", "zero", "bounds"} {
		if thrown[text] < 15 {
			t.Errorf("%q: %d", text, thrown[text])
		}
	}
}

// Values that may not be in the store, and cells: `kind`, ahead of all else.
func TestGhosts(t *testing.T) {
	for _, a := range ghosts() {
		for _, c := range wholeCalls(a) {
			if c.op == "Fn" && a == cell(5) {
				continue
			}
			wantThrown(t, zoo(), c, "kind")
		}
		wantThrown(t, zoo(), get(text(1), a), "kind")
		wantThrown(t, zoo(), put(list(2), num(99), a), "kind")
		wantThrown(t, zoo(), put(text(1), num(0), a), "kind")
	}
}

// An object that may not be, wherever it is led to: `kind`. Of what is not led to nothing is asked, and it stays as it is.
func TestSpoiltObjects(t *testing.T) {
	for _, bad := range []api.Obj{
		{}, {Kind: api.Items, Room: 3}, {Kind: 99, S: "x", Fn: 2, L: []api.Val{text(99), val(77, 7)}}, {Kind: api.List, Fn: 1}, {Kind: api.List, L: []api.Val{none}}, {Kind: api.List, Room: -1}, {Kind: api.List, Room: 4*api.MaxItems + 1}, {Kind: api.List, S: "x"},
		listOf(list(4)), listOf(list(5)), listOf(cell(2)), listOf(val(api.Bool, 7)), listOf(val(api.Nil, 7)), mapOf(none), mapOf(none, none, none, none), {Kind: api.List, L: []api.Val{}, Room: -5},
	} {
		v := val(bad.Kind, 1)
		s := api.Store{bad, cellOf(v), listOf(v)}
		wantVal(t, s, one("Neg", num(5)), num(-5))
		wantVal(t, s, bin(api.Same, none, none), yes)
		wantMade(t, s, newText("x"), says("x"), 3)
		wantMade(t, s, row("List", none), listOf(none), 6)
		wantMade(t, s, row("Map", none, no), mapOf(none, no), 8)
		wantMade(t, s, one("Cell", none), cellOf(none), 3)
		wantMade(t, s, newFn(9), fnOf(9), 2)
		s = append(s, fnOf(1), listOf(none), mapOf(none, none))
		wantPut(t, s, put(list(5), num(0), fn(4)), 5, listOf(fn(4)), 0)
		wantPut(t, s, put(dict(6), none, fn(4)), 6, mapOf(none, fn(4)), 0)
	}
	// Each of these is spoilt three steps away.
	s := api.Store{{Kind: api.Text, Fn: 1}, listOf(text(1)), cellOf(list(2)), fnOf(0, cell(3)), mapOf(fn(4), none), mapOf(none, fn(4)), listOf(dict(5)), listOf(), mapOf()}
	for _, v := range []api.Val{text(1), list(2), fn(4), dict(5), dict(6), list(7)} {
		for _, c := range []call{
			one("Len", v), one("Show", v), one("Cell", v), row("List", none, v), row("Map", v, none), row("Map", none, v), get(v, num(0)), get(dict(9), v),
			put(v, num(0), none), put(dict(9), v, none), put(list(8), num(0), v), bin(api.Same, v, v), bin(api.Unlike, none, v), bin(api.Add, v, v),
		} {
			wantThrown(t, s, c, "kind")
		}
	}
	wantThrown(t, s, newFn(0, cell(3)), "kind")
	wantThrown(t, s, one("Not", text(1)), "kind")
}
