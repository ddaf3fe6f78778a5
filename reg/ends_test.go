package reg_test

import (
	"slices"
	"testing"

	"gearbox/api"
	"gearbox/trials"
)

// P14.2: points without fuel: the run ends there, and what can be reached is what the exit tells.
func TestNoFuel(t *testing.T) {
	p := asking()
	made := "Const >2 n0 x0; Const >3 n1 x0; Cell >4 3 x0; Value >5; Fn >5 4 4 n1 x0; "
	for _, c := range []struct {
		code, told string
		words      int
	}{
		{"Loop n5 x1", "0: nil nil", 0},
		{"Loop n5 x1", "0: 2 3", 7},
		{"Loop n5 x1", "0: 3 3", 4},
		{"Loop n5 x1", "0: 4 2", 10},
		{"Loop n5 x1", "0: 2 5", 3 + 6 + 3 + 4},
		{"Loop n5 x1", "0: yes =5", 0},
		{"Call >0 5 2 2 2 x1; Return 0", "4: nil nil nil nil nil nil", 0},
		{"Call >0 5 2 2 2 x1; Return 0", "4: 2 nil 5 nil nil nil", 3 + 6 + 3 + 4},
		{"Call >0 5 2 2 2 x1; Return 0", "4: nil nil 5 2 2 2", 3 + 6 + 3 + 4},
		{"Call >0 2 2 2 2 x1; Return 0", "4: nil nil 5 2 2 2", 3 + 6 + 3 + 4},
		{"Call >0 2 2 2 2 x1; Return 0", "4: nil nil nil nil nil 2", 3},
	} {
		code := regs(6, made+c.code, "0: nil nil; "+c.told, "0 at 0: 0 1")
		if o := alike(t, p, main(code), plenty, 0, nil); !same(o, api.Outcome{End: api.EndFuel, Words: c.words}) {
			t.Errorf("%s, %s: %v", c.code, c.told, o)
		}
	}
}

// P14.2: each turn of a loop takes 1 of the fuel, and each call.
func TestFuel(t *testing.T) {
	p := asking()
	loop := regs(3, "Value >2 Int; Print 2 x0; Loop n1 x0", "0: nil nil", "0 at 0: 0 1")
	for fuel := range 5 {
		o := alike(t, p, main(loop), plenty, fuel, nil)
		if !same(o, api.Outcome{End: api.EndFuel, Out: slices.Repeat([]string{"0"}, fuel+1)}) {
			t.Error(fuel, o)
		}
	}
	// to its own place; to the first one
	itself := regs(2, "Print 0 x0; Loop n1 x0", "0: nil nil", "0 at 0: 0 1")
	if o := alike(t, p, main(itself), plenty, 50, nil); !same(o, api.Outcome{End: api.EndFuel, Out: []string{"nil"}}) {
		t.Error(o)
	}
	calls := regs(3, "Cell >2 0 x0; Fn >2 2 2 n1 x0; Call >0 2 0 0 0 x1; Call >0 2 0 0 0 x1; Print 0 x0; Return 0", "0: nil nil; 4: 0 1 2 0 0 0", "0 at 0: 0 1")
	for fuel := range 5 {
		o := alike(t, p, main(calls), plenty, fuel, nil)
		want := api.Outcome{End: api.EndDone, Out: []string{"nil"}, Fuel: fuel - 2}
		if fuel < 2 {
			want = api.Outcome{End: api.EndFuel, Words: 2 + 4 + 3}
		}
		if !same(o, want) {
			t.Error(fuel, o)
		}
	}
}

// P14.2: what Words says at each end: done 0, thrown what the value leads to, without fuel and without room what is told of all frames.
func TestWords(t *testing.T) {
	p := api.Program{trials.Fn("Const Throw", trials.Consts("abc"), trials.Locals(1))}
	made := "Const >1 n0 x0; List >2 1 1 x0; "
	for code, want := range map[string]api.Outcome{
		"Return 2":                             {End: api.EndDone},
		"Throw 2 x1":                           {End: api.EndThrown, Value: "[abc, abc]", Words: 8 + 3},
		"Throw 0 x2":                           {End: api.EndThrown, Value: "abc", Words: 3},
		"Throw 2 x0":                           {End: api.EndThrown, Value: "abc", Words: 3},
		"Loop n2 x1":                           {End: api.EndFuel, Words: 8 + 3},
		"Loop n2 x2":                           {End: api.EndFuel, Words: 3},
		"Loop n2 x0":                           {End: api.EndFuel},
		"List >0 2 x1; Return 0":               {End: api.EndRoom, Words: 8 + 3},
		"Cell >0 2 x2; Cell >0 0 x1; Return 0": {End: api.EndThrown, Value: "[abc, abc]", Words: 8 + 3}, // it falls: a cell is no cell's value
	} {
		c := regs(3, made+code, "0: nil; 1: nil 2; 1: nil 1", "0 at 0: 0")
		if o := alike(t, p, main(c), 15, 0, nil); !same(o, want) {
			t.Errorf("%s: %v, want %v", code, o, want)
		}
	}
}

// P14.2: a value whose text is too long: what is printed falls, what is thrown is told as `great`.
func TestGreat(t *testing.T) {
	p := of(t, `var a = "12345678"; var i = 0; while i < 9 { a = a + a; i = i + 1; } print [a]; throw [a];`)
	at := slices.IndexFunc(p[0].Code, func(i api.Ins) bool { return i.Op == api.OpPrint })
	c := regs(4, "Const >0 n0 x0; Value >2 Int n9; Value >3 Int n1; Jump n6; Return 0; Return 0; Value >1 Int; IntBin >1 1 3 Add x0; Bin >0 0 0 Add x0; IntBin >3 1 2 Less x0; Unless 3 n13 x0; Value >3 Int n1; Loop n7 x0; List >0 0 x0; Print 0 x1; Return 0", "0: nil nil", "0 at 0: 0 1")
	c.Exits = append(c.Exits, api.Exit{Pc: at, Slots: []api.Loc{loc("0"), loc("1"), loc("0")}})
	o := alike(t, p, main(c), plenty, 100, nil)
	if o.End != api.EndThrown || o.Value != "great" || len(o.Out) != 0 || o.Fuel != 92 {
		t.Error(brief(o))
	}
}
