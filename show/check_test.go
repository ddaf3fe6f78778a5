package show_test

import (
	"math"
	"strings"
	"testing"

	"gearbox/api"
)

// P4.2: values that lead to no object.
func TestCheckOfNoObject(t *testing.T) {
	s := api.Store{says("here")}
	for _, v := range []api.Val{none, no, yes, num(0), num(1), num(-1), num(math.MaxInt64), num(math.MinInt64), text(1)} {
		wantCheck(t, s, v, true)
	}
	for _, v := range []api.Val{
		val(api.Nil, 1), val(api.Nil, -1), val(api.Bool, 2), val(api.Bool, -1), val(api.Items, 0), val(api.Items, 1), val(9, 1), val(255, 0),
		text(0), text(-1), text(2), text(math.MinInt64), text(math.MaxInt64), list(1), dict(1), fn(1), cell(1), list(0), cell(2),
	} {
		wantCheck(t, s, v, false)
	}
}

// P4.2: a value of a kind leads to an object of that kind; objects of kinds that there are none of are led to by nothing.
func TestCheckKinds(t *testing.T) {
	s := api.Store{says("a"), listOf(), mapOf(), fnOf(3), cellOf(none), {Kind: api.Items}, {}, {Kind: api.Bool}, {Kind: api.Int}, {Kind: 200}}
	for i, o := range s {
		for k := api.Text; k < 12; k++ {
			wantCheck(t, s, val(k, int64(i)+1), k == o.Kind && i < 5)
		}
		wantCheck(t, s, val(o.Kind, int64(i)+1), i < 5 || o.Kind == api.Int)
	}
}

// P4.2: objects as DOC.md says, and their other fields zero.
func TestCheckForms(t *testing.T) {
	long := strings.Repeat("x", api.MaxText)
	nought := []api.Val{num(0)}
	pair := []api.Val{num(0), num(0)}
	for _, c := range []struct {
		o    api.Obj
		want bool
	}{
		{says(""), true}, {says("\x00\xff"), true}, {says(long), true}, {says(long + "x"), false},
		{api.Obj{Kind: api.Text, L: []api.Val{}}, true},
		{api.Obj{Kind: api.Text, L: nought}, false}, {api.Obj{Kind: api.Text, Room: 1}, false}, {api.Obj{Kind: api.Text, Room: -1}, false}, {api.Obj{Kind: api.Text, Fn: 1}, false}, {api.Obj{Kind: api.Text, Fn: -1}, false},

		{listOf(), true}, {listOf(num(0)), true}, {api.Obj{Kind: api.List, L: []api.Val{}, Room: 1}, true},
		{api.Obj{Kind: api.List, L: nought}, false}, {api.Obj{Kind: api.List, L: pair, Room: 1}, false}, {api.Obj{Kind: api.List, L: pair, Room: 3}, true}, {api.Obj{Kind: api.List, Room: -1}, false},
		{api.Obj{Kind: api.List, Room: 4 * api.MaxItems}, true}, {api.Obj{Kind: api.List, Room: 4*api.MaxItems + 1}, false}, {api.Obj{Kind: api.List, Room: math.MaxInt}, false}, {api.Obj{Kind: api.List, Room: math.MinInt}, false},
		{api.Obj{Kind: api.List, S: "x"}, false}, {api.Obj{Kind: api.List, Fn: 1}, false}, {api.Obj{Kind: api.List, Fn: -1}, false},

		{mapOf(), true}, {mapOf(num(0), num(0)), true}, {mapOf(num(0)), false}, {mapOf(num(0), num(0), num(1)), false},
		{api.Obj{Kind: api.Map, L: pair}, false}, {api.Obj{Kind: api.Map, L: pair, Room: 1}, false}, {api.Obj{Kind: api.Map, L: pair, Room: 3}, true}, {api.Obj{Kind: api.Map, Room: -1}, false},
		{api.Obj{Kind: api.Map, Room: 4 * api.MaxItems}, true}, {api.Obj{Kind: api.Map, Room: 4*api.MaxItems + 1}, false}, {api.Obj{Kind: api.Map, Room: math.MaxInt}, false},
		{api.Obj{Kind: api.Map, S: "x"}, false}, {api.Obj{Kind: api.Map, Fn: 1}, false}, {api.Obj{Kind: api.Map, Fn: -1}, false},

		{fnOf(0), true}, {fnOf(api.MaxFns - 1), true}, {fnOf(api.MaxFns), false}, {fnOf(-1), false}, {fnOf(math.MaxInt), false}, {fnOf(math.MinInt), false},
		{api.Obj{Kind: api.Func, S: "x"}, false}, {api.Obj{Kind: api.Func, Room: 1}, false}, {api.Obj{Kind: api.Func, Room: -1}, false},

		{cellOf(none), true}, {cellOf(), false}, {cellOf(none, none), false},
		{api.Obj{Kind: api.Cell, L: nought, S: "x"}, false}, {api.Obj{Kind: api.Cell, L: nought, Room: 1}, false}, {api.Obj{Kind: api.Cell, L: nought, Room: -1}, false}, {api.Obj{Kind: api.Cell, L: nought, Fn: 1}, false},
	} {
		v := val(c.o.Kind, 1)
		wantCheck(t, api.Store{c.o}, v, c.want)
		in := listOf(v)
		if c.o.Kind == api.Cell {
			in = fnOf(0, v)
		}
		wantCheck(t, api.Store{c.o, in}, val(in.Kind, 2), c.want)
	}
}

// P4.2: at most MaxItems items, and pairs.
func TestCheckItems(t *testing.T) {
	l := make([]api.Val, 2*api.MaxItems+2)
	for i := range l {
		l[i] = num(int64(i))
	}
	wantCheck(t, api.Store{listOf(l[:api.MaxItems]...)}, list(1), true)
	wantCheck(t, api.Store{listOf(l[:api.MaxItems+1]...)}, list(1), false)
	wantCheck(t, api.Store{mapOf(l[:2*api.MaxItems-1]...)}, dict(1), false)
	wantCheck(t, api.Store{mapOf(l[:2*api.MaxItems]...)}, dict(1), true)
	wantCheck(t, api.Store{mapOf(l[:2*api.MaxItems+1]...)}, dict(1), false)
	wantCheck(t, api.Store{mapOf(l...)}, dict(1), false)
	l[2*api.MaxItems-2] = l[0]
	wantCheck(t, api.Store{mapOf(l[:2*api.MaxItems]...)}, dict(1), false)
}

// P4.2: the values in an object may be; cells are in functions alone, and functions have no others.
func TestCheckHeld(t *testing.T) {
	s := api.Store{says("a"), listOf(), mapOf(), fnOf(3), cellOf(none), {}}
	for v, may := range map[api.Val]bool{
		none: true, yes: true, no: true, num(-8): true, text(1): true, list(2): true, dict(3): true, fn(4): true, cell(5): false,
		val(api.Nil, 1): false, val(api.Bool, 2): false, val(api.Items, 1): false, text(0): false, text(2): false, text(9): false, list(6): false, val(77, 1): false,
	} {
		s[5] = listOf(num(1), v)
		wantCheck(t, s, list(6), may || v == list(6))
		s[5] = mapOf(num(1), v)
		wantCheck(t, s, dict(6), may)
		s[5] = mapOf(v, num(1))
		wantCheck(t, s, dict(6), may)
		s[5] = cellOf(v)
		wantCheck(t, s, cell(6), may)
		s[5] = fnOf(1, cell(5), v)
		wantCheck(t, s, fn(6), v == cell(5))
		s[5] = fnOf(1, v, cell(5))
		wantCheck(t, s, fn(6), v == cell(5))
	}
	for _, v := range []api.Val{cell(0), cell(-1), cell(1), cell(7)} {
		s[5] = fnOf(1, v)
		wantCheck(t, s, fn(6), false)
	}
	s[5] = cellOf(cell(6))
	wantCheck(t, s, cell(6), false)
	s[5] = fnOf(1, cell(5), cell(5))
	wantCheck(t, s, fn(6), true)
}

// P4.2: no two keys the same.
func TestCheckKeys(t *testing.T) {
	s := api.Store{says("a"), says("a"), says("b"), says(""), says(""), listOf(), listOf(), mapOf(), mapOf(), fnOf(1), fnOf(1), says("1"), says("nil")}
	keys := []api.Val{none, no, yes, num(0), num(1), num(-1), text(1), text(3), text(4), list(6), list(7), dict(8), dict(9), fn(10), fn(11), text(12), text(13)}
	var all []api.Val
	for _, k := range keys {
		all = append(all, k, num(0))
	}
	wantCheck(t, append(s, mapOf(all...)), dict(14), true)
	for i, a := range keys {
		for j, b := range keys {
			wantCheck(t, append(s, mapOf(a, num(0), b, num(0))), dict(14), i != j)
			wantCheck(t, append(s, mapOf(num(5), b, num(6), b, a, a)), dict(14), true)
		}
		twice := append(append([]api.Val{}, all...), a, none)
		wantCheck(t, append(s, mapOf(twice...)), dict(14), false)
	}
	wantCheck(t, append(s, mapOf(text(1), num(0), text(2), num(0))), dict(14), false)
	wantCheck(t, append(s, mapOf(text(4), num(0), num(0), num(0), text(5), num(0))), dict(14), false)
	wantCheck(t, append(s, mapOf(text(3), text(1), text(1), text(2))), dict(14), true)
	wantCheck(t, append(s, mapOf(dict(14), dict(14))), dict(14), true)
	wantCheck(t, append(s, mapOf(dict(14), none, dict(14), none)), dict(14), false)
}

// P4.2: all objects that the value leads to are asked, by whatever way, and no others.
func TestCheckReaches(t *testing.T) {
	bad := api.Obj{Kind: api.List, Fn: 1}
	for _, s := range []api.Store{
		{listOf(list(3)), listOf(), bad},
		{listOf(none, list(2)), listOf(text(4), list(3)), bad, says("x")},
		{mapOf(list(3), none), listOf(), bad},
		{mapOf(none, list(3)), listOf(), bad},
		{fnOf(0, cell(2)), cellOf(list(3)), bad},
		{cellOf(list(3)), listOf(), bad},
		{fnOf(0, cell(2)), cellOf(dict(4)), bad, mapOf(num(1), num(2), list(5), num(3)), listOf(list(5), list(3), list(5))},
	} {
		v, last := val(s[0].Kind, 1), int64(len(s))+1
		wantCheck(t, s, v, false)
		s[2] = listOf(num(1))
		wantCheck(t, s, v, true)
		s = append(s, bad)
		wantCheck(t, s, v, true)
		wantCheck(t, s, list(last), false)
		wantCheck(t, s, num(last), true)
	}
}

// P4.2: objects that hold themselves or one another.
func TestCheckLoops(t *testing.T) {
	s := api.Store{listOf(list(1), list(1)), mapOf(dict(2), dict(2)), fnOf(2, cell(4)), cellOf(fn(3)), listOf(dict(6)), mapOf(list(5), fn(3), num(1), list(5))}
	for i, o := range s {
		wantCheck(t, s, val(o.Kind, int64(i)+1), true)
	}
	s[3].Room = 1
	wantCheck(t, s, fn(3), false)
	wantCheck(t, s, cell(4), false)
	wantCheck(t, s, list(5), false)
	wantCheck(t, s, dict(6), false)
	wantCheck(t, s, list(1), true)
}
