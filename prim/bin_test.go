package prim_test

import (
	"math"
	"slices"
	"strings"
	"testing"

	"gearbox/api"
)

const (
	least    = math.MinInt64
	greatest = math.MaxInt64
)

// P11.1: two Ints, that wrap.
func TestInts(t *testing.T) {
	for _, c := range []struct {
		op         api.Bin
		a, b, want int64
	}{
		{api.Add, 0, 0, 0}, {api.Add, -2, 5, 3}, {api.Add, greatest, 1, least}, {api.Add, least, -1, greatest}, {api.Add, least, least, 0}, {api.Add, greatest, greatest, -2}, {api.Add, greatest, least, -1},
		{api.Sub, 2, 3, -1}, {api.Sub, 3, 2, 1}, {api.Sub, least, 1, greatest}, {api.Sub, greatest, -1, least}, {api.Sub, 0, least, least}, {api.Sub, -1, least, greatest}, {api.Sub, least, least, 0},
		{api.Mul, 6, -7, -42}, {api.Mul, 0, least, 0}, {api.Mul, least, -1, least}, {api.Mul, greatest, 2, -2}, {api.Mul, 1 << 32, 1 << 32, 0}, {api.Mul, 1 << 32, 1 << 31, least}, {api.Mul, 3037000500, 3037000500, -9223372036709301616}, {api.Mul, greatest, greatest, 1},
		{api.Div, 7, 2, 3}, {api.Div, -7, 2, -3}, {api.Div, 7, -2, -3}, {api.Div, -7, -2, 3}, {api.Div, 0, 5, 0}, {api.Div, 1, 2, 0}, {api.Div, -1, 2, 0}, {api.Div, least, -1, least}, {api.Div, least, 1, least}, {api.Div, greatest, -1, least + 1}, {api.Div, least, 2, -1 << 62}, {api.Div, least, least, 1}, {api.Div, greatest, least, 0},
		{api.Mod, 7, 2, 1}, {api.Mod, -7, 2, -1}, {api.Mod, 7, -2, 1}, {api.Mod, -7, -2, -1}, {api.Mod, 6, 3, 0}, {api.Mod, -6, 3, 0}, {api.Mod, least, -1, 0}, {api.Mod, least, 1, 0}, {api.Mod, least, greatest, -1}, {api.Mod, greatest, least, greatest}, {api.Mod, 5, least, 5}, {api.Mod, least, least, 0},
	} {
		wantVal(t, nil, bin(c.op, num(c.a), num(c.b)), num(c.want))
	}
	for _, a := range []int64{0, 1, -1, least, greatest} {
		wantThrown(t, nil, bin(api.Div, num(a), num(0)), "zero")
		wantThrown(t, zoo(), bin(api.Mod, num(a), num(0)), "zero")
	}
}

// P11.1: Ints at their edges, each with all others.
func TestIntEdges(t *testing.T) {
	var edges []int64
	for _, n := range []int64{0, 1, 2, 3, 7, 10, 1 << 31, 1 << 32, 1 << 53, 1 << 62, greatest, 3037000499, 3037000500, 6364136223846793005} {
		for _, m := range []int64{n - 1, n, n + 1} {
			edges = append(edges, m, -m)
		}
	}
	for _, a := range edges {
		for _, b := range edges {
			for op := range api.Bin(11) {
				alike(t, nil, bin(op, num(a), num(b)))
			}
		}
	}
}

// wantOrder: how two values stand to each other, by Less and Most.
func wantOrder(t *testing.T, s api.Store, a, b api.Val, order int) {
	t.Helper()
	truth := map[bool]api.Val{true: yes, false: no}
	wantVal(t, s, bin(api.Less, a, b), truth[order < 0])
	wantVal(t, s, bin(api.Most, a, b), truth[order <= 0])
	wantVal(t, s, bin(api.Less, b, a), truth[order > 0])
	wantVal(t, s, bin(api.Most, b, a), truth[order >= 0])
	wantVal(t, s, bin(api.Same, a, b), truth[order == 0])
	wantVal(t, s, bin(api.Unlike, b, a), truth[order != 0])
}

// P11.1: Less and Most of Ints, and of Texts by their bytes.
func TestOrder(t *testing.T) {
	ints := []int64{least, least + 1, -1 << 32, -2, -1, 0, 1, 2, 1 << 32, greatest - 1, greatest}
	for i, a := range ints {
		for j, b := range ints {
			wantOrder(t, nil, num(a), num(b), i-j)
		}
	}
	var s api.Store
	texts := []string{"", "\x00", "\x00\x00", " ", "10", "9", "A", "Z", "a", "a\x00", "aa", "ab", "b", "z", "\x7f", "\x80", "\xc3\xa9", "\xe2\x82\xac", "\xf0\x90\x80\x80", "\xff", "\xff\x00", "\xff\xff"}
	for _, text := range append(texts, texts...) {
		s = append(s, says(text))
	}
	for i := range texts {
		for j := range texts {
			wantOrder(t, s, text(int64(i)+1), text(int64(j+len(texts))+1), i-j)
		}
	}
	long := strings.Repeat("x", api.MaxText-1)
	s = api.Store{says(long), says(long + "a"), says(long + "b")}
	wantOrder(t, s, text(1), text(2), -1)
	wantOrder(t, s, text(2), text(3), -1)
	wantOrder(t, s, text(3), text(3), 0)
}

// P11.1: two Texts, one behind the other; at most MaxText bytes.
func TestJoined(t *testing.T) {
	s := api.Store{says(""), says("ab"), says("\xff\x00"), says("1234567"), says("\xe2\x82"), says("\xac")}
	wantMade(t, s, bin(api.Add, text(1), text(1)), says(""), 2)
	wantMade(t, s, bin(api.Add, text(1), text(2)), says("ab"), 3)
	wantMade(t, s, bin(api.Add, text(2), text(1)), says("ab"), 3)
	wantMade(t, s, bin(api.Add, text(2), text(2)), says("abab"), 3)
	wantMade(t, s, bin(api.Add, text(2), text(3)), says("ab\xff\x00"), 3)
	wantMade(t, s, bin(api.Add, text(3), text(4)), says("\xff\x001234567"), 4)
	wantMade(t, s, bin(api.Add, text(5), text(6)), says("\xe2\x82\xac"), 3)
	for _, n := range []int{0, 1, 2, 2048, 4095, 4096} {
		a, b := strings.Repeat("a", n), strings.Repeat("b", api.MaxText-n)
		s = api.Store{says(a), says(b), says("x")}
		wantMade(t, s, bin(api.Add, text(1), text(2)), says(a+b), 514)
		wantMade(t, s, bin(api.Add, text(2), text(1)), says(b+a), 514)
		s = append(api.Store{says(a + "x"), says(b)}, s...)
		if n < api.MaxText {
			wantThrown(t, s, bin(api.Add, text(1), text(2)), "great")
			wantThrown(t, s, bin(api.Add, text(2), text(1)), "great")
		}
	}
	s = api.Store{says(strings.Repeat("a", api.MaxText)), says("a")}
	wantThrown(t, s, bin(api.Add, text(1), text(1)), "great")
	wantThrown(t, s, bin(api.Add, text(1), text(2)), "great")
	wantThrown(t, s, bin(api.Add, text(2), text(1)), "great")
}

// P11.1: what is of other kinds, or no Bin: `kind`, even where it would be by 0 or too great else.
func TestBinKinds(t *testing.T) {
	for _, a := range animals() {
		for _, b := range animals() {
			ints, texts := a.Kind == api.Int && b.Kind == api.Int, a.Kind == api.Text && b.Kind == api.Text
			for _, op := range []api.Bin{api.Sub, api.Mul, api.Div, api.Mod} {
				if !ints {
					wantThrown(t, zoo(), bin(op, a, b), "kind")
				}
			}
			for _, op := range []api.Bin{api.Add, api.Less, api.Most} {
				if !ints && !texts {
					wantThrown(t, zoo(), bin(op, a, b), "kind")
				}
			}
			for _, op := range []api.Bin{api.BinNone, api.Unlike + 1, 100, 255} {
				wantThrown(t, zoo(), bin(op, a, b), "kind")
			}
		}
	}
}

// P11.1: which two are the same.
func TestSame(t *testing.T) {
	same := [][]api.Val{{none}, {no}, {yes}, {num(0)}, {num(1)}, {num(-1)}, {num(2)}, {text(1), text(6)}, {text(7)}, {list(2)}, {list(8)}, {dict(3)}, {dict(9)}, {fn(4)}, {fn(10)}}
	for i, l := range same {
		for j, m := range same {
			for _, a := range l {
				for _, b := range m {
					wantSame(t, zoo(), a, b, i == j)
				}
			}
		}
	}
	s := api.Store{listOf(), listOf(), mapOf(), mapOf(), fnOf(1), fnOf(1), says("1"), says("nil"), says("")}
	all := []api.Val{list(1), list(2), dict(3), dict(4), fn(5), fn(6), text(7), text(8), text(9), none, no, num(0), num(1), num(3)}
	for i, a := range all {
		for j, b := range all {
			wantSame(t, s, a, b, i == j)
		}
	}
}

func wantSame(t *testing.T, s api.Store, a, b api.Val, are bool) {
	t.Helper()
	answers := []api.Val{no, yes}
	if !are {
		slices.Reverse(answers)
	}
	wantVal(t, s, bin(api.Same, a, b), answers[1])
	wantVal(t, s, bin(api.Unlike, a, b), answers[0])
}

// P11.1: cells are not the same, nor unlike: no cell is asked for.
func TestSameCells(t *testing.T) {
	s := api.Store{cellOf(none), listOf()}
	for _, op := range []api.Bin{api.Same, api.Unlike} {
		wantThrown(t, s, bin(op, cell(1), cell(1)), "kind")
		wantThrown(t, s, bin(op, none, cell(1)), "kind")
		wantThrown(t, s, bin(op, cell(1), list(2)), "kind")
	}
}
