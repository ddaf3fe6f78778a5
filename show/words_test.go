package show_test

import (
	"math"
	"strings"
	"testing"

	"gearbox/api"
	"gearbox/show"
)

// P4.3: each kind's words.
func TestWordsOfKinds(t *testing.T) {
	for n, want := range map[int]int{0: 2, 1: 3, 7: 3, 8: 3, 9: 4, 16: 4, 17: 5, api.MaxText: 514, api.MaxText + 1: 515} {
		wantWords(t, api.Store{says(strings.Repeat("x", n))}, want, text(1))
	}
	for _, c := range []struct {
		o    api.Obj
		want int
	}{
		{listOf(), 3}, {mapOf(), 3}, {listOf(none), 6}, {mapOf(none, none), 8},
		{api.Obj{Kind: api.List, Room: 1}, 6}, {api.Obj{Kind: api.Map, Room: 1}, 6}, {api.Obj{Kind: api.List, Room: 4}, 12}, {api.Obj{Kind: api.Map, Room: 8}, 20},
		{api.Obj{Kind: api.List, Room: -1}, 3}, {api.Obj{Kind: api.Map, Room: -9}, 3}, {api.Obj{Kind: api.List, Room: math.MinInt}, 3},
		{api.Obj{Kind: api.List, L: []api.Val{none, none}}, 3}, {api.Obj{Kind: api.Map, L: []api.Val{none, none}, Room: 1}, 6},
		{api.Obj{Kind: api.List, Room: 4 * api.MaxItems}, 4 + 8*api.MaxItems}, {api.Obj{Kind: api.Map, Room: 1 << 40}, 4 + 1<<41},
		{fnOf(0), 2}, {fnOf(9, none), 4}, {fnOf(9, none, none, none), 8}, {api.Obj{Kind: api.Func, Room: 5, S: "12345678"}, 2},
		{cellOf(), 3}, {cellOf(none), 3}, {cellOf(none, none), 3}, {api.Obj{Kind: api.Cell, Room: 5, S: "12345678"}, 3},
		{api.Obj{Kind: api.Text, Room: 5, Fn: 8, L: []api.Val{none}}, 2}, {api.Obj{Kind: api.List, S: "12345678", Fn: 3}, 3},
		{api.Obj{Kind: api.Items, Room: 3}, 0}, {api.Obj{Kind: api.Int, Room: 3}, 0}, {api.Obj{}, 0}, {api.Obj{Kind: 99, Room: 4}, 0},
	} {
		wantWords(t, api.Store{c.o}, c.want, val(c.o.Kind, 1))
	}
}

// P4.3: values that lead to no object have none.
func TestWordsOfNoObject(t *testing.T) {
	s := examples()
	wantWords(t, s, 0)
	wantWords(t, s, 0, none, yes, no, num(1), num(2), val(api.Bool, 2), val(api.Nil, 1), val(api.Items, 1), val(99, 1), text(0), text(-1), text(2), text(7), list(1), list(math.MinInt64), cell(math.MaxInt64), fn(4), dict(2))
}

// P4.3: each object counts once, however often it is met.
func TestWordsOnce(t *testing.T) {
	s := examples()
	wantWords(t, s, 3, text(1), text(1), text(1))
	wantWords(t, s, 15, text(1), list(2), text(1), list(2))
	wantWords(t, s, 35, dict(3))
	wantWords(t, s, 48, dict(3), fn(5), list(6))
	wantWords(t, api.Store{listOf(text(2), text(2), list(1)), says("a")}, 3+1+6+3, list(1))
	wantWords(t, api.Store{says("a"), says("a")}, 6, text(1), text(2))
}

// P4.3: what an object's values are its L says, whatever its kind, and whatever stands in it.
func TestWordsOfAnyStore(t *testing.T) {
	for k := api.Text; k <= api.Cell; k++ {
		s := api.Store{{Kind: k, L: []api.Val{num(3), text(3), list(9), cell(2)}}, cellOf(none, list(1), list(4)), says("nobody leads here, though"), {Kind: api.List, Room: 1}}
		first := map[api.Kind]int{api.Text: 2, api.List: 3, api.Map: 3, api.Func: 10, api.Cell: 3}[k]
		wantWords(t, s, first+3+6+6, val(k, 1))
	}
	odd := api.Store{mapOf(text(2), text(3), text(4)), says(""), says(""), says("")}
	wantWords(t, odd, 3+1+6+6, dict(1))
}

// P4.4: words of roots together are at most those of each added, and at least those of any.
func TestWordsTogether(t *testing.T) {
	s := examples()
	var roots []api.Val
	sum := 0
	for i, o := range s {
		v := val(o.Kind, int64(i)+1)
		alone := show.Words(s, []api.Val{v})
		roots = append(roots, v)
		sum += alone
		if all := show.Words(s, roots); all > sum || all < alone {
			t.Errorf("%d together, %d added, %d alone", all, sum, alone)
		}
	}
}
