package graph_test

import (
	"slices"
	"testing"

	"gearbox/api"
	"gearbox/trials"
)

// asking: a program with two constants that are texts; function 1 has three params, and is made over a local, and over another one; function 2 over nothing.
func asking() api.Program {
	return api.Program{
		trials.Fn("Fn 1 Const Const Const Call 3 Pop Fn 2 Return", trials.Locals(2), trials.Consts("abc", "123456789")),
		trials.Fn("Nil Return", trials.Params(3), trials.Caps(api.Cap{N: 0}, api.Cap{N: 1})),
		trials.Fn("Nil Return"),
	}
}

// P16.2: each node that asks for words: with room that is just enough, and with one word too little. What nodes came to that the state does not tell takes no room.
func TestAsked(t *testing.T) {
	for _, c := range []struct {
		made  string // ahead of it, from the node 2 on; 0 is nil, and was printed
		asks  string
		told  string // by its state
		roots int    // how many words that are
		words int    // how many it asks for
	}{
		{"", "Const n0", "nil nil", 0, 3},
		{"", "Const n1", "nil nil", 0, 4},
		{"Const n1 s0", "Const n0", "2 nil", 4, 3},
		{"Const n1 s0", "Const n0", "2 2", 4, 3},
		{"Const n0 s0", "Const n1", "0 1", 0, 4},
		{"Value Int n1", "Cell 2", "2 nil", 0, 3},
		{"Const n0 s0", "Cell 2", "2 nil", 3, 3},
		{"Const n0 s0", "Cell 2", "nil nil", 0, 3},
		{"Const n0 s0; Const n1 s0", "Bin 2 3 Add", "2 3", 7, 4},
		{"Const n0 s0; Const n1 s0", "Bin 3 3 Add", "2 nil", 3, 5},
		{"Const n0 s0; Const n1 s0", "Bin 3 2 Add", "nil nil", 0, 4},
		{"Value Int n1234567890", "Show 2", "2 nil", 0, 4},
		{"Const n1 s0", "Show 2", "2 nil", 4, 4},
		{"", "List", "nil nil", 0, 3},
		{"Value Int n1", "List 2 2", "nil nil", 0, 8},
		{"Const n0 s0", "List 2 2", "2 nil", 3, 8},
		{"", "Map", "nil nil", 0, 3},
		{"Const n0 s0", "Map 2 2", "2 nil", 3, 8},
		{"Const n0 s0; Value Int n1", "Get 2 3", "2 nil", 3, 3},
		{"Const n0 s0; Value Int n1", "Get 2 3", "nil 3", 0, 3},
		{"List s0; Value Int n0", "Put 2 3 3", "2 nil", 3, 9},
		{"List s0; Value Int n0", "Put 2 3 3", "nil nil", 0, 9},
		{"List 0 0 s0; Value Int n2", "Put 2 3 3", "2 nil", 8, 9},
		{"Map s0; Value Int n0", "Put 2 3 3", "2 nil", 3, 17},
		{"", "Fn n2", "nil nil", 0, 2},
		{"Cell 0 s0", "Fn 2 2 n1", "2 nil", 3, 6},
		{"Cell 0 s0; Cell 0 s0", "Fn 2 3 n1", "2 3", 6, 6},
		{"Cell 0 s0; Cell 0 s0", "Fn 2 3 n1", "3 nil", 3, 6},
		{"Cell 0 s0; Const n1 s0; CellStore 2 3 s0", "List", "2 nil", 7, 3},
		{"Cell 0 s0; Const n1 s0; CellStore 2 3 s0", "List", "2 3", 7, 3},
	} {
		// behind a first print all is made with states that tell nothing, and it is seen how far the run came
		g := trials.Graph(2, "Value; Print 0 s0; "+c.made+"; "+c.asks+" s1; Print 0 s0; Return 0", "0: nil nil; 0: "+c.told)
		for _, less := range []int{0, 1, 2} {
			room := c.roots + c.words - less
			if less > 0 && room < biggest(c.made) {
				continue
			}
			want := api.Outcome{End: api.EndDone, Out: []string{"nil", "nil"}, Fuel: 9}
			if less > 0 {
				want = api.Outcome{End: api.EndRoom, Out: []string{"nil"}, Fuel: 9, Words: c.roots}
			}
			if o := alike(t, asking(), []api.Graph{g}, room, 9, nil); !same(o, want) {
				t.Errorf("%s; %s: room %d: %v, want %v", c.made, c.asks, room, o, want)
			}
		}
	}
}

// biggest: how many words what is made ahead asks for, at most at a time.
func biggest(made string) int {
	most := 1
	for _, s := range trials.Between(made, ";") {
		x := trials.Node(s)
		most = max(most, map[api.NodeOp]int{api.NoConst: 4, api.NoCell: 3, api.NoMap: 3, api.NoList: 3 + 5*min(1, len(x.Args))}[x.Op])
	}
	return most
}

// P16.2: nodes and ends that ask for nothing do so without room, even where what is told is more than the room.
func TestAsksNothing(t *testing.T) {
	const made = "Const n1 s0; Const n1 s0; Cell 0 s0; List 1 s0; Value Int; Value Bool n1; "
	const states = "0: nil nil; 0: 2 3"
	const after = "; Print 4 s1; Return 0"
	for _, asks := range []string{
		"Value Int n1" + after, "CellLoad 2 s1" + after, "CellStore 2 1 s1" + after, "Bin 0 1 Less s1" + after, "Bin 1 1 Same s1" + after, "Len 0 s1" + after, "Guard 0 Text s1" + after,
		"Get 3 4 s1" + after, "Put 3 4 4 s1" + after, "Print 0 s1" + after, "IntBin 4 4 Sub s1" + after, "Neg 4 s1" + after, "Not 5 s1" + after,
		"Unless 5 >1 >2 s1 | Return 0 | Return 0", "Jump >1 | Phi 0; Phi 1; Print 7 s1; Return 6", "Jump >1 | Phi 5 7; Unless 6 >2 >3 s1 | Value Bool; Loop >1 s1 | Return 0",
	} {
		o := alike(t, asking(), []api.Graph{trials.Graph(2, made+asks, states)}, 6, 9, nil)
		if o.End != api.EndDone {
			t.Errorf("%s: %v", asks, o)
		}
	}
	// but then there is room for nothing
	o := alike(t, asking(), []api.Graph{trials.Graph(2, made+"Fn n2 s1; Return 0", states)}, 6, 9, nil)
	if !same(o, api.Outcome{End: api.EndRoom, Fuel: 9, Words: 3 + 4 + 6 + 4}) {
		t.Error(o)
	}
}

// P16.2: what no state tells is there all the same, for whatever asks for it later, in other blocks, too.
func TestHeldBeside(t *testing.T) {
	const held = "Value; List s0; Const n0 s0; Const n1 s0; List 1 2 3 s0; Cell 4 s0; Jump >1 | Phi 2; Map s0; CellLoad 5 s0; Print 8 s0; Print 6 s0; Return 0"
	for room := 10; room < 40; room++ {
		o := alike(t, asking(), []api.Graph{trials.Graph(2, held, "0: nil nil")}, room, 9, nil)
		if !same(o, api.Outcome{End: api.EndDone, Out: []string{"[[], abc, 123456789]", "abc"}, Fuel: 9}) {
			t.Errorf("room %d: %v", room, o)
		}
	}
	// what was held beside, and is told later, takes room again
	const told = "Const n1 s0; Const n1 s0; Const n0 s1; Print 2 s0; Return 0"
	for room, want := range map[int]api.Outcome{10: {End: api.EndRoom, Fuel: 9, Words: 8}, 11: {End: api.EndDone, Out: []string{"abc"}, Fuel: 9}} {
		if o := alike(t, asking(), []api.Graph{trials.Graph(2, told, "0: nil nil; 0: 0 1")}, room, 9, nil); !same(o, want) {
			t.Errorf("room %d: %v", room, o)
		}
	}
}

// P16.2: of a frame that waits, what its call's state tells takes room, but for what the call took; the Func by which a frame was called does, too.
func TestWaiting(t *testing.T) {
	p := of(t, `var f = fn(a, b) { "12345678"; }; var g = 5; f("12345678", "abc"); print g;`)
	at := slices.IndexFunc(p[0].Code, func(i api.Ins) bool { return i.Op == api.OpCall })
	// in the call: the Func (2); its locals: the text (3); what is told of the waiting frame: a cell of the text (3)
	for told, roots := range map[string]int{"3 nil 1 2 2": 8, "2 nil 1 2 2": 5, "nil nil 1 2 2": 5, "nil nil 3 3 3": 5, "3 3 nil nil nil": 8} {
		g := trials.Graph(2, "Const n0 s0; Fn n1 s0; Const n2 s0; Cell 2 s0; Call 1 2 2 s1; Print 4 s0; Return 0", "0: nil nil; 0: "+told)
		g.States[1].Pc = at
		for _, less := range []int{0, 1} {
			room := roots + 3 - less
			want := api.Outcome{End: api.EndDone, Out: []string{"nil"}, Fuel: 8}
			if less > 0 {
				want = api.Outcome{End: api.EndRoom, Fuel: 8, Words: roots}
			}
			if o := alike(t, p, []api.Graph{g}, room, 9, nil); !same(o, want) {
				t.Errorf("%s, room %d: %v", told, room, o)
			}
		}
	}
}

// P16.2: points without fuel: the run ends there, and what can be reached is what the state tells.
func TestNoFuel(t *testing.T) {
	const made = "Const n0 s0; Const n1 s0; Cell 1 s0; Value; Fn 2 2 n1 s0; "
	const loop, call, other = "Jump >1 | Loop >1 s1", "Call 4 0 0 0 s1; Return 0", "Call 0 0 0 0 s1; Return 0"
	for _, c := range []struct {
		code, told string
		words      int
	}{
		{loop, "0: nil nil", 0}, {loop, "0: 0 1", 7}, {loop, "0: 1 1", 4}, {loop, "0: 2 0", 10}, {loop, "0: 0 4", 3 + 6 + 3 + 4}, {loop, "0: 3 nil", 0},
		{call, "4: nil nil nil nil nil nil", 0}, {call, "4: 0 nil 4 nil nil nil", 3 + 6 + 3 + 4}, {call, "4: nil nil 4 0 0 0", 3 + 6 + 3 + 4},
		{other, "4: nil nil 4 0 0 0", 3 + 6 + 3 + 4}, {other, "4: nil nil nil nil nil 0", 3},
	} {
		g := trials.Graph(2, made+c.code, "0: nil nil; "+c.told)
		if o := alike(t, asking(), []api.Graph{g}, plenty, 0, nil); !same(o, api.Outcome{End: api.EndFuel, Words: c.words}) {
			t.Errorf("%s, %s: %v", c.code, c.told, o)
		}
	}
}

// P16.2: each turn of a loop takes 1 of the fuel, and each call; jumps take none.
func TestFuel(t *testing.T) {
	loop := trials.Graph(2, "Value Int; Jump >1 | Print 0 s0; Loop >1 s0", "0: nil nil")
	calls := trials.Graph(2, "Value; Cell 0 s0; Fn 1 1 n1 s0; Call 2 0 0 0 s1; Jump >1 | Call 2 0 0 0 s1; Print 4 s0; Return 0", "0: nil nil; 4: 0 1 2 0 0 0")
	for fuel := range 5 {
		o := alike(t, asking(), []api.Graph{loop}, plenty, fuel, nil)
		if !same(o, api.Outcome{End: api.EndFuel, Out: slices.Repeat([]string{"0"}, fuel+1)}) {
			t.Error(fuel, o)
		}
		o = alike(t, asking(), []api.Graph{calls}, plenty, fuel, nil)
		want := api.Outcome{End: api.EndDone, Out: []string{"nil"}, Fuel: fuel - 2}
		if fuel < 2 {
			want = api.Outcome{End: api.EndFuel, Words: 2 + 4 + 3}
		}
		if !same(o, want) {
			t.Error(fuel, o)
		}
	}
}

// P16.2: what Words says at each end: done 0, thrown what the value leads to, without fuel and without room what is told of all frames.
func TestWords(t *testing.T) {
	p := api.Program{trials.Fn("Const Throw", trials.Consts("abc"), trials.Locals(1))}
	const made = "Const n0 s0; List 0 0 s0; Value; "
	for code, want := range map[string]api.Outcome{
		"Return 1":                       {End: api.EndDone},
		"Throw 1 s1":                     {End: api.EndThrown, Value: "[abc, abc]", Words: 8 + 3},
		"Throw 2 s2":                     {End: api.EndThrown, Value: "abc", Words: 3},
		"Throw 1 s0":                     {End: api.EndThrown, Value: "abc", Words: 3},
		"Jump >1 | Loop >1 s1":           {End: api.EndFuel, Words: 8 + 3},
		"Jump >1 | Loop >1 s2":           {End: api.EndFuel, Words: 3},
		"Jump >1 | Loop >1 s0":           {End: api.EndFuel},
		"List 1 s1; Return 0":            {End: api.EndRoom, Words: 8 + 3},
		"Cell 1 s2; Cell 3 s1; Return 0": {End: api.EndThrown, Value: "[abc, abc]", Words: 8 + 3}, // it falls: a cell is no cell's value
	} {
		g := trials.Graph(1, made+code, "0: nil; 1: nil 1; 1: nil 0")
		if o := alike(t, p, []api.Graph{g}, 15, 0, nil); !same(o, want) {
			t.Errorf("%s: %v, want %v", code, o, want)
		}
	}
}
