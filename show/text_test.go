package show_test

import (
	"math"
	"slices"
	"strings"
	"testing"

	"gearbox/api"
)

// P4.1: nil, Bools and Ints of any N.
func TestTextOfNoObject(t *testing.T) {
	for v, want := range map[api.Val]string{
		none:                   "nil",
		val(api.Nil, 7):        "nil",
		no:                     "no",
		yes:                    "yes",
		val(api.Bool, 2):       "no",
		val(api.Bool, -1):      "no",
		num(0):                 "0",
		num(-1):                "-1",
		num(1000000):           "1000000",
		num(math.MaxInt64):     "9223372036854775807",
		num(math.MinInt64):     "-9223372036854775808",
		val(api.Items, 1):      "?",
		val(api.Items+1, 1):    "?",
		val(255, 1):            "?",
		text(0):                "?",
		text(-1):               "?",
		text(math.MinInt64):    "?",
		text(math.MaxInt64):    "?",
		list(2):                "?",
		val(api.Func, 1<<32+1): "?",
		val(api.Cell, 2):       "?",
		val(api.Map, -1<<63+1): "?",
	} {
		wantText(t, api.Store{says("here")}, v, want)
		wantText(t, nil, v, want)
	}
}

// P4.1: a value of a kind leads to no object of another.
func TestTextOfAnotherKind(t *testing.T) {
	s := api.Store{says("a"), listOf(), mapOf(), fnOf(3), cellOf(none), {Kind: api.Items}, {}, {Kind: api.Bool}, {Kind: api.Int}, {Kind: 200}}
	shown := []string{"a", "[]", "{}", "fn 3", "?", "?", "?", "?", "?", "?"}
	for i, o := range s {
		for k := api.Text; k < 12; k++ {
			want := "?"
			if k == o.Kind {
				want = shown[i]
			}
			wantText(t, s, val(k, int64(i)+1), want)
		}
	}
}

// P4.1: a Text as it is, whatever its bytes.
func TestTextOfText(t *testing.T) {
	for _, a := range []string{"", "a", "a, b", "nil", "\x00", "\xff\xfe", "gr\u00fc\u00dfe", "[1", "line\nline\r\t\"quoted\" \\"} {
		s := api.Store{says(a), listOf(text(1), num(1), text(1)), mapOf(text(1), text(1))}
		wantText(t, s, text(1), a)
		wantText(t, s, list(2), "["+a+", 1, "+a+"]")
		wantText(t, s, dict(3), "{"+a+": "+a+"}")
	}
}

// P4.1: what is between, ahead and behind.
func TestTextOfRows(t *testing.T) {
	s := api.Store{listOf(), mapOf(), says("k"), cellOf(num(1)), fnOf(255, cell(4)), fnOf(0), fnOf(-12),
		listOf(none, yes, num(-3), text(3), list(1), dict(2), fn(5), fn(6), cell(4), text(1)),
		mapOf(num(1), num(2), text(3), none, list(1), dict(2), cell(4), fn(5)),
		mapOf(num(1)), mapOf(num(1), num(2), text(3)), listOf(num(1)),
		{Kind: api.List, L: []api.Val{num(1), num(2)}}, {Kind: api.Map, L: []api.Val{num(1), num(2)}, Room: -3, Fn: 9, S: "no"},
	}
	for n, want := range map[int64]string{
		1: "[]", 2: "{}", 5: "fn 255", 6: "fn 0", 7: "fn -12",
		8:  "[nil, yes, -3, k, [], {}, fn 255, fn 0, ?, ?]",
		9:  "{1: 2, k: nil, []: {}, ?: fn 255}",
		10: "{1: nil}", 11: "{1: 2, k: nil}", 12: "[1]", 13: "[1, 2]", 14: "{1: 2}",
	} {
		wantText(t, s, val(s[n-1].Kind, n), want)
	}
}

// P4.1: a List or a Map within 8 others is shown, within 9 it is not; other values are at any depth.
func TestTextWithin(t *testing.T) {
	lists := chain(10, func(next int64) api.Obj { return listOf(list(next)) })
	lists[9] = listOf(num(5))
	wantText(t, lists, list(1), "[[[[[[[[[..]]]]]]]]]")
	wantText(t, lists, list(2), "[[[[[[[[[5]]]]]]]]]")
	lists[9] = listOf()
	wantText(t, lists, list(1), "[[[[[[[[[..]]]]]]]]]")
	wantText(t, lists, list(2), "[[[[[[[[[]]]]]]]]]")

	values := chain(10, func(next int64) api.Obj { return mapOf(num(next), dict(next)) })
	wantText(t, values, dict(1), "{2: {3: {4: {5: {6: {7: {8: {9: {10: ..}}}}}}}}}")
	wantText(t, values, dict(3), "{4: {5: {6: {7: {8: {9: {10: {10: {10: ..}}}}}}}}}")
	keys := chain(10, func(next int64) api.Obj { return mapOf(dict(next), num(next)) })
	wantText(t, keys, dict(1), "{{{{{{{{{..: 10}: 9}: 8}: 7}: 6}: 5}: 4}: 3}: 2}")

	mixed := api.Store{listOf(dict(2), text(3), list(9)), mapOf(text(3), list(1)), says("t")}
	wantText(t, mixed, list(1), listAndMap(9))
	wantText(t, mixed, dict(2), "{t: "+listAndMap(8)+"}")
}

// listAndMap: a list of a map of that list, and so on, the outer one with so many levels below it.
func listAndMap(levels int) string {
	switch {
	case levels == 0:
		return ".."
	case levels == 1:
		return "[.., t, ?]"
	}
	return "[{t: " + listAndMap(levels-2) + "}, t, ?]"
}

// P4.1, P4.4: values that lead to themselves, alone or by others.
func TestTextOfLoops(t *testing.T) {
	s := api.Store{listOf(list(2), num(1)), listOf(list(1)), cellOf(fn(4)), fnOf(8, cell(3))}
	wantText(t, s, list(1), "[[[[[[[[[.., 1]], 1]], 1]], 1]], 1]")
	wantText(t, s, list(2), "[[[[[[[[[..], 1]], 1]], 1]], 1]]")
	wantText(t, s, fn(4), "fn 8")

	wantText(t, api.Store{listOf(list(1), list(1))}, list(1), doubled("[", ", ", "]"))
	wantText(t, api.Store{mapOf(dict(1), dict(1))}, dict(1), doubled("{", ": ", "}"))
	wantLong(t, api.Store{listOf(list(1), list(1), list(1))}, list(1))
	wantLong(t, api.Store{mapOf(dict(1), dict(1), dict(1), dict(1))}, dict(1))
}

// doubled: one that holds itself twice.
func doubled(open, between, shut string) string {
	a := ".."
	for range 9 {
		a = open + a + between + a + shut
	}
	return a
}

// P4.1: MaxText bytes are a text, one more is none.
func TestTextLimit(t *testing.T) {
	for _, n := range []int{api.MaxText - 1, api.MaxText} {
		wantText(t, api.Store{says(strings.Repeat("x", n))}, text(1), strings.Repeat("x", n))
	}
	for _, n := range []int{api.MaxText + 1, 2 * api.MaxText, 1 << 20} {
		wantLong(t, api.Store{says(strings.Repeat("x", n))}, text(1))
	}
	wantText(t, api.Store{says(strings.Repeat("\u00fc", api.MaxText/2))}, text(1), strings.Repeat("\u00fc", api.MaxText/2)) // bytes, not letters
	wantLong(t, api.Store{says(strings.Repeat("\u00fc", api.MaxText/2) + "x")}, text(1))
}

// P4.1: the limit holds wherever the last byte comes from.
func TestTextLimitWithin(t *testing.T) {
	for v, shown := range map[api.Val]string{
		none: "nil", yes: "yes", no: "no", num(-45): "-45", fn(2): "fn 123", list(3): "[]", dict(4): "{}", cell(5): "?", text(0): "?", text(6): "", text(7): "ab", list(8): "[no]", dict(9): "{1: no}", dict(10): "{2: nil}",
	} {
		for _, more := range []int{-1, 0, 1, 2, 3, 4, 5, 6, 7, 8, 9, 10} {
			long := strings.Repeat("x", api.MaxText-len("[, ]")-len(shown)+more)
			s := api.Store{says(long), fnOf(123), listOf(), mapOf(), cellOf(none), says(""), says("ab"), listOf(no), mapOf(num(1), no), mapOf(num(2)), listOf(text(1), v), listOf(v, text(1)), mapOf(text(1), v), mapOf(v, text(1))}
			if more > 0 {
				wantLong(t, s, list(11))
				wantLong(t, s, list(12))
				wantLong(t, s, dict(13))
				wantLong(t, s, dict(14))
				continue
			}
			wantText(t, s, list(11), "["+long+", "+shown+"]")
			wantText(t, s, list(12), "["+shown+", "+long+"]")
			wantText(t, s, dict(13), "{"+long+": "+shown+"}")
			wantText(t, s, dict(14), "{"+shown+": "+long+"}")
		}
	}
}

// P4.1: lists and maps of many small values at the limit.
func TestTextLimitOfMany(t *testing.T) {
	const n = (api.MaxText - 1) / 3 // each item takes 3 bytes, the last one 2 with the bracket behind it, and one stands ahead
	sevens := slices.Repeat([]api.Val{num(7)}, n)
	wantText(t, api.Store{listOf(sevens...)}, list(1), "["+strings.Repeat("7, ", n-1)+"7]")
	sevens[0] = num(77)
	wantText(t, api.Store{listOf(sevens...)}, list(1), "[77, "+strings.Repeat("7, ", n-2)+"7]")
	sevens[n-1] = num(77)
	wantLong(t, api.Store{listOf(sevens...)}, list(1))
	wantLong(t, api.Store{listOf(append(sevens, none)...)}, list(1))
}
