package prim_test

import (
	"math"
	"slices"
	"strings"
	"testing"

	"gearbox/api"
	"gearbox/prim"
)

// P11.3: Text, of any bytes, at most MaxText.
func TestText(t *testing.T) {
	for _, x := range []string{"", "a", "nil", "\x00", "\xff\xfe", "gr\u00fc\u00dfe", "line\nline"} {
		wantMade(t, nil, newText(x), says(x), 2+(len(x)+7)/8)
		wantMade(t, zoo(), newText(x), says(x), 2+(len(x)+7)/8)
	}
	for n, words := range map[int]int{0: 2, 1: 3, 7: 3, 8: 3, 9: 4, 15: 4, 16: 4, 17: 5, 4095: 514, 4096: 514, 4088: 513} {
		wantMade(t, zoo(), newText(strings.Repeat("x", n)), says(strings.Repeat("x", n)), words)
	}
	for _, n := range []int{4097, 5000, 1 << 20} {
		wantThrown(t, zoo(), newText(strings.Repeat("x", n)), "great")
	}
	wantMade(t, nil, newText(strings.Repeat("\u00fc", 2048)), says(strings.Repeat("\u00fc", 2048)), 514)
	wantThrown(t, nil, newText(strings.Repeat("\u00fc", 2049)), "great")
}

// P11.3: a List with those items, Room as many.
func TestList(t *testing.T) {
	wantMade(t, zoo(), row("List"), listOf(), 3)
	var l []api.Val
	for i, v := range animals() {
		l = append(l, v)
		wantMade(t, zoo(), row("List", l...), listOf(l...), 4+2*(i+1))
		wantMade(t, zoo(), row("List", v), listOf(v), 6)
		wantMade(t, zoo(), row("List", v, v, v), listOf(v, v, v), 10)
	}
	for _, v := range ghosts() {
		for at := range l {
			wantThrown(t, zoo(), row("List", slices.Insert(slices.Clone(l), at, v)...), "kind")
		}
	}
}

// P11.3: a Map in the order in which the keys came; a key that is there already gets the other value, and Room is for all.
func TestMap(t *testing.T) {
	wantMade(t, zoo(), row("Map"), mapOf(), 3)
	wantMade(t, zoo(), row("Map", num(2), yes, num(1), no), mapOf(num(2), yes, num(1), no), 12)
	wantMade(t, zoo(), row("Map", num(1), num(5), num(1), num(6)), with(4, mapOf(num(1), num(6))), 12)
	wantMade(t, zoo(), row("Map", num(1), num(5), num(2), num(7), num(1), num(6), num(3), none, num(2), num(8)), with(10, mapOf(num(1), num(6), num(2), num(8), num(3), none)), 24)
	wantMade(t, zoo(), row("Map", text(6), num(1), text(1), num(2)), with(4, mapOf(text(6), num(2))), 12) // the key that came first stays
	wantMade(t, zoo(), row("Map", text(1), text(6), text(7), text(1)), mapOf(text(1), text(6), text(7), text(1)), 12)
	wantMade(t, zoo(), row("Map", none, num(1), none, num(2), none, none), with(6, mapOf(none, none)), 16)
	wantMade(t, zoo(), row("Map", list(8), dict(9), dict(9), list(8), list(8), list(2)), with(6, mapOf(list(8), list(2), dict(9), list(8))), 16)
	var all, twice []api.Val
	for _, v := range animals() {
		if v != text(6) {
			all = append(all, v, v)
			twice = append(twice, v, no)
		}
	}
	wantMade(t, zoo(), row("Map", all...), mapOf(all...), 4+2*len(all))
	wantMade(t, zoo(), row("Map", append(twice, all...)...), with(2*len(all), mapOf(all...)), 4+4*len(all))
	for i := 1; i < len(all); i += 2 {
		wantThrown(t, zoo(), row("Map", all[:i]...), "kind")
	}
	for _, v := range ghosts() {
		for at := range all {
			spoilt := slices.Clone(all)
			spoilt[at] = v
			wantThrown(t, zoo(), row("Map", spoilt...), "kind")
		}
	}
}

// P11.3: a Cell of any value but a cell.
func TestCell(t *testing.T) {
	for _, v := range animals() {
		wantMade(t, zoo(), one("Cell", v), cellOf(v), 3)
	}
	wantMade(t, nil, one("Cell", num(4)), cellOf(num(4)), 3)
	wantThrown(t, zoo(), one("Cell", cell(5)), "kind")
}

// P11.3: a Func over cells, and nothing but cells; which function it is of is not asked.
func TestFn(t *testing.T) {
	s := append(zoo(), cellOf(none), cellOf(list(2)))
	for _, n := range []int{0, 1, 255, 256, -1, math.MaxInt, math.MinInt} {
		wantMade(t, nil, newFn(n), fnOf(n), 2)
		wantMade(t, s, newFn(n, cell(5)), fnOf(n, cell(5)), 4)
		wantMade(t, s, newFn(n, cell(12), cell(5), cell(11), cell(5)), fnOf(n, cell(12), cell(5), cell(11), cell(5)), 10)
	}
	for _, v := range append(animals(), ghosts()...) {
		if v != cell(5) {
			wantThrown(t, zoo(), newFn(1, v), "kind")
			wantThrown(t, zoo(), newFn(1, cell(5), v), "kind")
			wantThrown(t, zoo(), newFn(1, v, cell(5)), "kind")
		}
	}
	cells := slices.Repeat([]api.Val{cell(1)}, 3*api.MaxItems)
	wantMade(t, api.Store{cellOf(none)}, newFn(1, cells...), fnOf(1, cells...), 2+6*api.MaxItems)
	wantThrown(t, api.Store{cellOf(none)}, newFn(1, append(cells, none)...), "kind")
}

// What leads nowhere leads nowhere still while an operation works: a number behind the store's is no object's, whatever is going to be made there.
func TestNumbersBehind(t *testing.T) {
	for ahead := range 4 {
		for _, k := range []api.Kind{api.Text, api.List, api.Map, api.Func, api.Cell} {
			s := slices.Repeat(api.Store{says("x")}, ahead)
			for n := range int64(6) {
				behind := val(k, int64(ahead)+4+n)
				s := append(slices.Clone(s), listOf(behind), cellOf(behind), mapOf(behind, none))
				at := int64(ahead)
				for _, c := range []call{
					row("List", behind), row("List", list(at+1)), row("List", none, dict(at+3)), row("Map", behind, none), row("Map", none, list(at+1)), newFn(0, cell(at+2)), newFn(0, behind),
					one("Cell", behind), one("Cell", list(at+1)), get(list(at+1), num(0)), put(list(at+1), num(0), none), one("Show", list(at+1)), bin(api.Same, behind, behind),
				} {
					wantThrown(t, s, c, "kind")
				}
			}
		}
	}
	s := api.Store{listOf(list(2)), listOf(list(3)), listOf(list(4)), listOf(list(5), list(6)), listOf(list(7), list(8), fn(6))}
	for n := int64(1); n <= 9; n++ {
		wantThrown(t, s, row("List", list(n)), "kind")
		wantThrown(t, s, row("Map", list(n), list(n)), "kind")
	}
	wantMade(t, s, row("List", none, yes), listOf(none, yes), 8)
}

// Numbers: each new object has the next one, whatever stands in the store.
func TestNumbers(t *testing.T) {
	s := api.Store{{}, {Kind: 200}, listOf(list(99))}
	for n := int64(4); n < 40; n += 5 {
		for _, d := range []prim.Did{prim.Text(s, "x"), prim.List(s, nil), prim.Map(s, nil), prim.Cell(s, none), prim.Fn(s, 0, nil)} {
			if d.Val.N != n || d.Store[n-1].Kind != d.Val.Kind {
				t.Errorf("%s, want %d", brief(d), n)
			}
		}
		s = prim.Text(prim.List(prim.Map(prim.Cell(prim.Fn(s, 0, nil).Store, none).Store, nil).Store, nil).Store, "x").Store
	}
}
