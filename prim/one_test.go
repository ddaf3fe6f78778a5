package prim_test

import (
	"slices"
	"strings"
	"testing"

	"gearbox/api"
)

// P11.2: Not of a Bool, Neg of an Int, of nothing else.
func TestNotAndNeg(t *testing.T) {
	wantVal(t, nil, one("Not", no), yes)
	wantVal(t, zoo(), one("Not", yes), no)
	for a, w := range map[int64]int64{0: 0, 1: -1, -1: 1, 5: -5, greatest: least + 1, least + 1: greatest, least: least} {
		wantVal(t, nil, one("Neg", num(a)), num(w))
		wantVal(t, zoo(), one("Neg", num(a)), num(w))
	}
	for _, a := range animals() {
		if a.Kind != api.Bool {
			wantThrown(t, zoo(), one("Not", a), "kind")
		}
		if a.Kind != api.Int {
			wantThrown(t, zoo(), one("Neg", a), "kind")
		}
	}
	wantThrown(t, nil, one("Not", val(api.Bool, 2)), "kind")
	wantThrown(t, nil, one("Not", val(api.Bool, -1)), "kind")
}

// P11.2: Len of a Text its bytes, of a List its items, of a Map its pairs, of nothing else; Room does not count.
func TestLen(t *testing.T) {
	s := append(zoo(), says("gr\u00fc\u00dfe\x00"), with(40, listOf(none, none)), with(40, mapOf(num(1), none, num(2), none, num(3), none)), with(9, listOf()), with(9, mapOf()), says(strings.Repeat("x", api.MaxText)))
	for v, n := range map[api.Val]int64{text(1): 2, text(7): 0, list(2): 3, list(8): 0, dict(3): 2, dict(9): 0, text(11): 8, list(12): 2, dict(13): 3, list(14): 0, dict(15): 0, text(16): api.MaxText} {
		wantVal(t, s, one("Len", v), num(n))
	}
	for _, a := range []api.Val{none, no, yes, num(0), num(5), fn(4), fn(10), cell(5)} {
		wantThrown(t, s, one("Len", a), "kind")
	}
}

// P11.2: Show makes a new Text of any value, a Text's too.
func TestShow(t *testing.T) {
	for v, w := range map[api.Val]string{
		none: "nil", no: "no", yes: "yes", num(0): "0", num(least): "-9223372036854775808", text(1): "ab", text(7): "", list(8): "[]", dict(9): "{}", fn(4): "fn 7",
		list(2): "[1, ab, [1, ab, [1, ab, [1, ab, [1, ab, [1, ab, [1, ab, [1, ab, [1, ab, ..]]]]]]]]]",
	} {
		wantMade(t, zoo(), one("Show", v), says(w), 2+(len(w)+7)/8)
	}
	wantThrown(t, zoo(), one("Show", cell(5)), "kind")
}

// P11.2: a text that is too long: `great`.
func TestShowGreat(t *testing.T) {
	long := strings.Repeat("x", api.MaxText-2)
	s := api.Store{says(long), listOf(text(1)), says(long + "xx"), listOf(text(3)), says(long + "x"), listOf(text(5)), listOf(list(2)), listOf(list(8), list(8), list(8))}
	wantMade(t, s, one("Show", text(1)), says(long), 514)
	wantMade(t, s, one("Show", text(3)), says(long+"xx"), 514)
	wantMade(t, s, one("Show", list(2)), says("["+long+"]"), 514)
	for _, v := range []api.Val{list(4), list(6), list(7), list(8)} {
		wantThrown(t, s, one("Show", v), "great")
	}
	noughts := api.Store{listOf(slices.Repeat([]api.Val{num(0)}, 5000)...)}
	wantThrown(t, noughts, one("Show", list(1)), "great")
	wantThrown(t, api.Store{says(long + "xxx")}, one("Show", text(1)), "kind") // a Text that may not be
}
