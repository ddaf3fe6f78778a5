package reg_test

import (
	"slices"
	"testing"

	"gearbox/api"
	"gearbox/trials"
)

// asking: a program with places for each instruction, and two constants that are texts; function 1 has three params, and is made over the local 0 and over what main is not over; function 2 over nothing.
func asking() api.Program {
	return api.Program{
		trials.Fn("Fn 1 Const Const Const Call 3 Pop Fn 2 Return", trials.Locals(2), trials.Consts("abc", "123456789")),
		trials.Fn("Nil Return", trials.Params(3), trials.Caps(api.Cap{N: 0}, api.Cap{N: 1})),
		trials.Fn("Nil Return"),
	}
}

// P14.2: each instruction that asks for words: with room that is just enough, and with one word too little. What registers hold that the exit does not tell takes no room.
func TestAsked(t *testing.T) {
	for _, c := range []struct {
		made  string // ahead of it
		asks  string
		told  string // by its exit
		roots int    // how many words that are
		words int    // how many it asks for
	}{
		{"", "Const >2 n0 x1", "nil nil", 0, 3},
		{"", "Const >2 n1 x1", "nil nil", 0, 4},
		{"Const >3 n1 x0", "Const >2 n0 x1", "3 nil", 4, 3},
		{"Const >3 n1 x0", "Const >2 n0 x1", "3 3", 4, 3},
		{"Const >3 n0 x0", "Const >2 n1 x1", "nil nil", 0, 4},
		{"Value >3 Int n1", "Cell >2 3 x1", "nil nil", 0, 3},
		{"Const >3 n0 x0", "Cell >2 3 x1", "3 nil", 3, 3},
		{"Const >3 n0 x0", "Cell >2 3 x1", "2 nil", 0, 3},
		{"Const >3 n0 x0", "Cell >3 3 x1", "=4 3", 3, 3},
		{"Const >3 n0 x0; Const >4 n1 x0", "Bin >2 3 4 Add x1", "3 4", 7, 4},
		{"Const >3 n0 x0; Const >4 n1 x0", "Bin >2 4 4 Add x1", "3 nil", 3, 5},
		{"Const >3 n0 x0; Const >4 n1 x0", "Bin >2 4 3 Add x1", "nil nil", 0, 4},
		{"Value >3 Int n1234567890", "Show >2 3 x1", "nil nil", 0, 4},
		{"Const >3 n1 x0", "Show >2 3 x1", "3 nil", 4, 4},
		{"", "List >2 x1", "nil nil", 0, 3},
		{"Value >3 Int n1", "List >2 3 3 x1", "nil nil", 0, 8},
		{"Const >3 n0 x0", "List >2 3 3 x1", "3 nil", 3, 8},
		{"", "Map >2 x1", "nil nil", 0, 3},
		{"Const >3 n0 x0", "Map >2 3 3 x1", "3 nil", 3, 8},
		{"Const >3 n0 x0; Value >4 Int n1", "Get >2 3 4 x1", "3 nil", 3, 3},
		{"Const >3 n0 x0; Value >4 Int n1", "Get >2 3 4 x1", "nil nil", 0, 3},
		{"List >3 x0; Value >4 Int n0", "Put 3 4 4 x1", "3 nil", 3, 9},
		{"List >3 x0; Value >4 Int n0", "Put 3 4 4 x1", "nil nil", 0, 9},
		{"List >3 4 4 x0; Value >4 Int n2", "Put 3 4 4 x1", "3 nil", 8, 9},
		{"Map >3 x0; Value >4 Int n0", "Put 3 4 4 x1", "3 nil", 3, 17},
		{"", "Fn >2 n2 x1", "nil nil", 0, 2},
		{"Cell >3 4 x0", "Fn >2 3 3 n1 x1", "3 nil", 3, 6},
		{"Cell >3 4 x0; Cell >4 4 x0", "Fn >2 3 4 n1 x1", "3 4", 6, 6},
		{"Cell >3 4 x0; Cell >4 4 x0", "Fn >2 3 4 n1 x1", "4 nil", 3, 6},
	} {
		// behind a first print all is made with exits that tell nothing, and it is seen how far the run came
		code := regs(5, "Print 2 x0; "+c.made+"; "+c.asks+"; Print 0 x0; Return 0", "0: nil nil; 0: "+c.told, "0 at 0: 0 1")
		for _, less := range []int{0, 1, 2} {
			room := c.roots + c.words - less
			if less > 0 && room < biggest(c.made) {
				continue
			}
			want := api.Outcome{End: api.EndDone, Out: []string{"nil", "nil"}, Fuel: 9}
			if less > 0 {
				want = api.Outcome{End: api.EndRoom, Out: []string{"nil"}, Fuel: 9, Words: c.roots}
			}
			if o := alike(t, asking(), main(code), room, 9, nil); !same(o, want) {
				t.Errorf("%s; %s: room %d: %v, want %v", c.made, c.asks, room, o, want)
			}
		}
	}
}

// biggest: how many words what is made ahead asks for, at most at a time.
func biggest(made string) int {
	most := 1
	for _, s := range trials.Between(made, ";") {
		words := map[api.RegOp]int{api.RConst: 4, api.RCell: 3, api.RMap: 3, api.RList: 3 + 5*min(1, len(ins(s).Args))}[ins(s).Op]
		most = max(most, words)
	}
	return most
}

// P14.2: instructions that ask for nothing do so without room, even where what is told is more than the room.
func TestAsksNothing(t *testing.T) {
	for _, asks := range []string{
		"Value >2 Int n1", "Move >2 3", "CellLoad >2 5 x1", "CellStore 5 4 x1", "Bin >2 3 4 Less x1", "Bin >2 4 4 Same x1", "Len >2 3 x1", "Guard 3 Text x1",
		"Get >2 6 7 x1", "Put 6 7 7 x1", "Print 3 x1", "IntBin >2 7 7 Sub x1", "Neg >2 7 x1", "Not >2 8 x1", "Unless 8 n9 x1", "Loop n7 x1",
	} {
		made := "Const >3 n1 x0; Const >4 n1 x0; Cell >5 3 x0; List >6 4 x0; Value >7 Int; Value >8 Bool n1; "
		code := regs(9, made+"Jump n8; Return 7; "+asks+"; Print 7 x1; Return 0", "0: nil nil; 0: 5 6", "0 at 0: 0 1")
		o := alike(t, asking(), main(code), 6, 9, nil)
		if o.End != api.EndDone {
			t.Errorf("%s: %v", asks, o)
		}
	}
	// but then there is room for nothing
	made := "Const >3 n1 x0; Const >4 n1 x0; Cell >5 3 x0; List >6 4 x0; Fn >2 n2 x1"
	o := alike(t, asking(), main(regs(9, made+"; Return 0", "0: nil nil; 0: 5 6", "0 at 0: 0 1")), 6, 9, nil)
	if !same(o, api.Outcome{End: api.EndRoom, Fuel: 9, Words: 3 + 4 + 6 + 4}) {
		t.Error(o)
	}
}

// P14.2: what no exit tells is there all the same, for as long as a register holds it or leads to it.
func TestHeldBeside(t *testing.T) {
	p := asking()
	code := regs(8, "List >2 x0; Const >3 n0 x0; Const >4 n1 x0; List >5 2 3 4 x0; Cell >6 5 x0; Const >2 n0 x0; Value >3; Value >4; Value >5; Map >7 x0; CellLoad >7 6 x0; Print 7 x0; Print 2 x0; Return 0", "0: nil nil", "0 at 0: 0 1")
	for room := 10; room < 40; room++ {
		o := alike(t, p, main(code), room, 9, nil)
		if !same(o, api.Outcome{End: api.EndDone, Out: []string{"[[], abc, 123456789]", "abc"}, Fuel: 9}) {
			t.Errorf("room %d: %v", room, o)
		}
	}
	// what was held beside, and is told later, takes room again
	code = regs(6, "Const >2 n1 x0; Const >3 n1 x0; Const >4 n0 x1; Print 4 x0; Return 0", "0: nil nil; 0: 2 3", "0 at 0: 0 1")
	for room, want := range map[int]api.Outcome{10: {End: api.EndRoom, Fuel: 9, Words: 8}, 11: {End: api.EndDone, Out: []string{"abc"}, Fuel: 9}} {
		if o := alike(t, p, main(code), room, 9, nil); !same(o, want) {
			t.Errorf("room %d: %v", room, o)
		}
	}
}

// P14.2: of a frame that waits, what its call's exit tells takes room, but for what the call took; the Func by which a frame was called does, too.
func TestWaiting(t *testing.T) {
	p := of(t, `var f = fn(a, b) { "12345678"; }; var g = 5; f("12345678", "abc"); print g;`)
	at := slices.IndexFunc(p[0].Code, func(i api.Ins) bool { return i.Op == api.OpCall })
	code := regs(8, "Const >2 n0 x0; Value >0 Int n0; Fn >4 n1 x0; Const >3 n0 x0; Const >3 n2 x0; Cell >5 3 x0; Call >6 4 3 3 x1; Print 6 x0; Return 0", "0: nil nil", "0 at 0: 0 1")
	// in the call: the Func (2); its locals: the text (3); what is told of the waiting frame: a cell of the text (3)
	for told, roots := range map[string]int{"5 nil 4 3 3": 8, "3 nil 4 3 3": 5, "nil nil 4 3 3": 5, "nil nil 5 5 5": 5, "5 5 nil nil nil": 8} {
		c := code
		c.Exits = append(slices.Clone(code.Exits), regs(8, "", "0: "+told, "").Exits[0])
		c.Exits[1].Pc = at
		codes := main(c)
		for _, less := range []int{0, 1} {
			room := roots + 3 - less
			want := api.Outcome{End: api.EndDone, Out: []string{"nil"}, Fuel: 8}
			if less > 0 {
				want = api.Outcome{End: api.EndRoom, Fuel: 8, Words: roots}
			}
			if o := alike(t, p, codes, room, 9, nil); !same(o, want) {
				t.Errorf("%s, room %d: %v", told, room, o)
			}
		}
	}
}
