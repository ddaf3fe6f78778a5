package prim_test

import (
	"math"
	"testing"

	"gearbox/api"
)

// P11.4: Get of a List at an Int.
func TestGetItem(t *testing.T) {
	s := append(zoo(), with(20, listOf(animals()...)))
	for i, v := range animals() {
		wantVal(t, s, get(list(11), num(int64(i))), v)
	}
	for _, n := range []int64{-1, 16, 17, least, greatest, 1 << 32, 1<<32 + 1, -1 << 32} {
		wantThrown(t, s, get(list(11), num(n)), "bounds")
	}
	wantThrown(t, zoo(), get(list(8), num(0)), "bounds")
	for _, k := range animals() {
		if k.Kind != api.Int {
			wantThrown(t, zoo(), get(list(2), k), "kind")
		}
	}
}

// P11.4: Get of a Text at an Int: a new Text of one byte, though it were no letter.
func TestGetByte(t *testing.T) {
	said := "a\x00\xff\u20ac"
	s := api.Store{says(said), says("")}
	for i := range len(said) {
		wantMade(t, s, get(text(1), num(int64(i))), says(said[i:i+1]), 3)
	}
	for _, n := range []int64{-1, 6, 7, least, greatest, 1 << 32} {
		wantThrown(t, s, get(text(1), num(n)), "bounds")
		wantThrown(t, s, get(text(2), num(n)), "bounds")
	}
	wantThrown(t, s, get(text(2), num(0)), "bounds")
	for _, k := range animals() {
		if k.Kind != api.Int {
			wantThrown(t, zoo(), get(text(1), k), "kind")
		}
	}
}

// P11.4: Get of a Map at any value; nil, if there is no such key.
func TestGetKey(t *testing.T) {
	var pairs []api.Val
	for i, v := range animals() {
		if v != text(6) {
			pairs = append(pairs, v, num(int64(100+i)))
		}
	}
	s := append(zoo(), mapOf(pairs...))
	for i, v := range animals() {
		w := num(int64(100 + i))
		if v == text(6) {
			w = num(107)
		}
		wantVal(t, s, get(dict(11), v), w)
		wantVal(t, s, get(dict(9), v), none)
	}
	s = append(s, says("ab"), says("abc"), listOf(), fnOf(7, cell(5)))
	wantVal(t, s, get(dict(11), text(12)), num(107))
	for _, k := range []api.Val{text(13), list(14), fn(15), num(3), num(100), dict(11)} {
		wantVal(t, s, get(dict(11), k), none)
	}
	s = api.Store{mapOf(dict(1), dict(1), none, none)}
	wantVal(t, s, get(dict(1), dict(1)), dict(1))
	wantVal(t, s, get(dict(1), none), none)
}

// P11.4: what is neither Text, List nor Map: `kind`; a Text is not put into.
func TestRowKinds(t *testing.T) {
	for _, v := range animals() {
		for _, k := range animals() {
			if v.Kind != api.Text && v.Kind != api.List && v.Kind != api.Map {
				wantThrown(t, zoo(), get(v, k), "kind")
			}
			if v.Kind != api.List && v.Kind != api.Map || v.Kind == api.List && k.Kind != api.Int {
				wantThrown(t, zoo(), put(v, k, none), "kind")
			}
		}
	}
}

// P11.4: Put of a List: at each place, and behind the last.
func TestPutItem(t *testing.T) {
	s := api.Store{with(4, listOf(num(1), num(2), num(3))), says("x"), listOf(list(1))}
	for _, x := range []api.Val{none, yes, num(9), text(2), list(1), list(3)} {
		wantPut(t, s, put(list(1), num(0), x), 1, with(4, listOf(x, num(2), num(3))), 0)
		wantPut(t, s, put(list(1), num(1), x), 1, with(4, listOf(num(1), x, num(3))), 0)
		wantPut(t, s, put(list(1), num(2), x), 1, with(4, listOf(num(1), num(2), x)), 0)
		wantPut(t, s, put(list(1), num(3), x), 1, with(4, listOf(num(1), num(2), num(3), x)), 0)
		wantPut(t, s, put(list(3), num(0), x), 3, listOf(x), 0)
		wantPut(t, s, put(list(3), num(1), x), 3, with(4, listOf(list(1), x)), 9)
		for _, n := range []int64{-1, 4, 5, least, greatest, 1 << 32, 1<<32 + 1} {
			wantThrown(t, s, put(list(1), num(n), x), "bounds")
		}
	}
}

// P11.4: how Room grows, and the words that are asked for.
func TestListGrows(t *testing.T) {
	for items := range 20 {
		for spare := range 4 {
			o := api.Obj{Kind: api.List, Room: items + spare}
			for i := range items {
				o.L = append(o.L, num(int64(-i)))
			}
			s := api.Store{says(""), o}
			w := listOf(append(o.L[:items:items], yes)...)
			w.Room = o.Room
			words := 0
			if spare == 0 {
				w.Room = []int{4, 4, 4, 6, 8, 10, 12, 14, 16, 18, 20, 22, 24, 26, 28, 30, 32, 34, 36, 38}[items]
				words = 1 + 2*w.Room
			}
			wantPut(t, s, put(list(2), num(int64(items)), yes), 2, w, words)
		}
	}
}

// P11.4: Put of a Map at any value: a key that is there already keeps its place, and itself; a new one is the last.
func TestPutPair(t *testing.T) {
	s := append(zoo(), with(8, mapOf(text(1), no, none, num(5), list(8), none)))
	for _, x := range animals() {
		wantPut(t, s, put(dict(11), text(1), x), 11, with(8, mapOf(text(1), x, none, num(5), list(8), none)), 0)
		wantPut(t, s, put(dict(11), text(6), x), 11, with(8, mapOf(text(1), x, none, num(5), list(8), none)), 0)
		wantPut(t, s, put(dict(11), none, x), 11, with(8, mapOf(text(1), no, none, x, list(8), none)), 0)
		wantPut(t, s, put(dict(11), list(8), x), 11, with(8, mapOf(text(1), no, none, num(5), list(8), x)), 0)
		for _, k := range []api.Val{no, yes, num(0), num(5), num(-1), num(greatest), text(7), list(2), dict(3), dict(9), dict(11), fn(4), fn(10)} {
			wantPut(t, s, put(dict(11), k, x), 11, with(8, mapOf(text(1), no, none, num(5), list(8), none, k, x)), 0)
		}
	}
}

// P11.4: how Room of a Map grows, of odd Rooms too, and the words that are asked for.
func TestMapGrows(t *testing.T) {
	for pairs := range 12 {
		for spare := range 5 {
			o := api.Obj{Kind: api.Map, Room: 2*pairs + spare}
			for i := range pairs {
				o.L = append(o.L, num(int64(i)), yes)
			}
			s := api.Store{o, says("k")}
			w := mapOf(append(o.L[:2*pairs:2*pairs], text(2), none)...)
			w.Room = o.Room
			words := 0
			if spare < 2 {
				w.Room = [][]int{{8, 8}, {8, 8}, {8, 10}, {12, 14}, {16, 18}, {20, 22}, {24, 26}, {28, 30}, {32, 34}, {36, 38}, {40, 42}, {44, 46}}[pairs][spare]
				words = 1 + 2*w.Room
			}
			wantPut(t, s, put(dict(1), text(2), none), 1, w, words)
			if pairs > 0 {
				w = mapOf(append([]api.Val{num(0), none}, o.L[2:]...)...)
				wantPut(t, s, put(dict(1), num(0), none), 1, with(o.Room, w), 0)
			}
		}
	}
}

// R1: places that are no places.
func TestWildPlaces(t *testing.T) {
	for _, n := range []int64{math.MinInt64, math.MinInt32, -1, math.MaxInt32, math.MaxInt64} {
		for _, v := range []api.Val{text(1), list(2), list(8)} {
			wantThrown(t, zoo(), get(v, num(n)), "bounds")
		}
		wantThrown(t, zoo(), put(list(2), num(n), none), "bounds")
		wantVal(t, zoo(), get(dict(3), num(n)), none)
	}
}
