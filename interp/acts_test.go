package interp_test

import (
	"slices"
	"testing"

	"gearbox/api"
	"gearbox/samples"
)

// examples: of chapter 12, and some more, with what they come to: room 1000 where none is told, fuel 100.
var examples = []struct {
	text string
	room int
	want api.Outcome
}{
	{`print 1 + 2;`, 1000, api.Outcome{End: api.EndDone, Out: []string{"3"}, Fuel: 100}},
	{`var i = 0; while i < 3 { i = i + 1; } print i;`, 1000, api.Outcome{End: api.EndDone, Out: []string{"3"}, Fuel: 97}},
	{`throw [1, "a"];`, 1000, api.Outcome{End: api.EndThrown, Value: "[1, a]", Fuel: 100, Words: 8 + 3}},
	{`try { print 1 / 0; } catch e { print e; }`, 1000, api.Outcome{End: api.EndDone, Out: []string{"zero"}, Fuel: 100}},
	{`var f = fn(n) { if n < 1 { return 0; } return n + f(n - 1); }; print f(4);`, 1000, api.Outcome{End: api.EndDone, Out: []string{"10"}, Fuel: 95}},
	{`while yes { }`, 1000, api.Outcome{End: api.EndFuel}},
	{`var l = []; while yes { l[#l] = 1; }`, 30, api.Outcome{End: api.EndRoom, Fuel: 92, Words: 20}},
	{`var l = []; while yes { l[#l] = 1; }`, 1000, api.Outcome{End: api.EndFuel, Words: 3 + 257}},
	// much is thrown away: each turn makes some 40 words, and there is never room for two of them
	{`var i = 0; while i < 90 { i = i + 1; [i, [$i, "b"], {"c": $i + "d"}]; } print i;`, 45, api.Outcome{End: api.EndDone, Out: []string{"90"}, Fuel: 10}},
	// values that are being worked on: a call's, a list's, those of frames that wait
	{`var f = fn(n) { if n == 0 { return "end" + $n; } return ["at" + $n, f(n - 1), "gone" + "!" == $n]; }; print f(3);`, 200, api.Outcome{End: api.EndDone, Out: []string{"[at3, [at2, [at1, end0, no], no], no]"}, Fuel: 96}},
	// a Func that nothing leads to but its own frame, over a cell that nothing else leads to
	{`var make = fn(n) { var s = "s" + $n; return fn() { var i = 0; while i < 5 { i = i + 1; "gone" + $i; s = s + $i; } return s; }; }; print make(7)();`, 1000, api.Outcome{End: api.EndDone, Out: []string{"s712345"}, Fuel: 93}},
	// what is thrown goes through frames whose values go
	{`var f = fn(n, l) { if n == 0 { throw [l, "thrown" + $n]; } f(n - 1, [n, l]); }; try { f(3, nil); } catch e { var i = 0; while i < 5 { [i]; i = i + 1; } print e; }`, 1000, api.Outcome{End: api.EndDone, Out: []string{"[[1, [2, [3, nil]]], thrown0]"}, Fuel: 91}},
	// lists that lead to themselves and to one another
	{`var a = [1]; var b = [a, nil]; a[1] = b; b[1] = b; var i = 0; while i < 20 { ["gone", i]; i = i + 1; } print b[0][0]; print b == b[1]; print a[1] == b; print a == b;`, 60, api.Outcome{End: api.EndDone, Out: []string{"1", "yes", "yes", "no"}, Fuel: 80}},
	// keys that are lists stay the same ones, keys that are texts are what they say
	{`var k = [1]; var m = {k: "list", "t" + "x": "text"}; var i = 0; while i < 9 { [i, $i]; i = i + 1; } print m[k]; print m["tx"]; print m[[1]]; m[k] = i; print m;`, 60, api.Outcome{End: api.EndDone, Out: []string{"list", "text", "nil", "{[1]: 9, tx: text}"}, Fuel: 91}},
}

// P13.2, P0.1: acts make no difference: none, at every point, at some, more of them than there are points, kinds that are none.
func TestActs(t *testing.T) {
	for i, c := range examples {
		p, d := of(t, c.text), samples.Dice(i)
		for range 20 {
			for _, acts := range allActs(&d, 100) {
				if o := run(t, p, c.room, 100, acts); !same(o, c.want) {
					t.Fatalf("%s, acts %v:\n%s, want\n%s", c.text, acts, brief(o), brief(c.want))
				}
			}
		}
		for n := range 101 { // one collection, at each point in its turn
			if o := run(t, p, c.room, 100, append(make([]api.ActKind, n), api.ActCollect)); !same(o, c.want) {
				t.Fatalf("%s, collected at %d:\n%s, want\n%s", c.text, n, brief(o), brief(c.want))
			}
		}
		alike(t, p, c.room, 100, nil)
	}
}

// R4: acts stay as they are, and what is behind them, too.
func TestActsStay(t *testing.T) {
	acts := slices.Repeat([]api.ActKind{api.ActCollect, api.ActNone, 77}, 40)
	was := slices.Clone(acts)
	p := of(t, `var i = 0; while i < 30 { i = i + 1; [i]; }`)
	first := run(t, p, 1000, 100, acts[:60])
	if !slices.Equal(acts, was) {
		t.Error("acts were changed")
	}
	clear(acts)
	if o := run(t, p, 1000, 100, was); !same(o, first) {
		t.Error(o, first)
	}
}

// R1: as many acts as anybody could tell.
func TestManyActs(t *testing.T) {
	acts := every(1 << 22)
	p := of(t, `var i = 0; while i < 1000 { i = i + 1; } print i;`)
	want := api.Outcome{End: api.EndDone, Out: []string{"1000"}, Fuel: api.MaxFuel - 1000}
	if o := run(t, p, api.MaxWords, api.MaxFuel, acts); !same(o, want) {
		t.Error(o)
	}
}
