package build_test

import (
	"testing"

	"gearbox/api"
	"gearbox/trials"
)

// rows: each instruction that ends no block, in a function with two locals (nodes 0 and 1), two cells that it is closed over, the constants 7 and "ab"; what is made for it, and the states.
var rows = [][3]string{
	{"Const Return", "Value Int n7; Return 2", ""},
	{"Const 1 Const Return", "Const n1 s0; Value Int n7; Return 3", "0: 0 1"},
	{"Const Const 1 Return", "Value Int n7; Const n1 s0; Return 3", "1: 0 1 2"},
	{"Nil Return", "Value; Return 2", ""},
	{"Yes Return", "Value Bool n1; Return 2", ""},
	{"No Nil Return", "Value Bool; Value; Return 3", ""},
	{"Load Return", "Return 0", ""},
	{"Load 1 Print Load Return", "Print 1 s0; Return 0", "1: 0 1 1"},
	{"Load Load 1 Store Store 1 Load Load 1 List 2 Return", "List 1 0 s0; Return 2", "6: 1 0 1 0"},
	{"Nil Yes Store 1 Show Return", "Value; Value Bool n1; Show 2 s0; Return 4", "3: 0 3 2"},
	{"Cell Cell 1 Cell Nil Return", "Cell 0 s0; Cell 1 s1; Cell 2 s2; Value; Return 5", "0: 0 1; 1: 2 1; 2: 2 3"},
	{"CellLoad CellLoad 1 Return", "CellLoad 0 s0; CellLoad 1 s1; Return 3", "0: 0 1; 1: 0 1 2"},
	{"Nil Yes CellStore 1 CellStore No Return", "Value; Value Bool n1; CellStore 1 3 s0; CellStore 0 2 s1; Value Bool; Return 6", "2: 0 1 2 3; 3: 0 1 2"},
	{"Up Up 1 Return", "Up n0; Up n1; Return 3", ""},
	{"Nil Yes UpStore 1 UpStore Nil Return", "Value; Value Bool n1; UpStore 3 n1 s0; UpStore 2 n0 s1; Value; Return 6", "2: 0 1 2 3; 3: 0 1 2"},
	{"Nil Yes Pop Return", "Value; Value Bool n1; Return 2", ""},
	{"Nil Dup Dup List 3 Return", "Value; List 2 2 2 s0; Return 3", "3: 0 1 2 2 2"},
	{"Nil Yes Bin 1 Return", "Value; Value Bool n1; Bin 2 3 Add s0; Return 4", "2: 0 1 2 3"},
	{"Nil Yes No Bin 4 Bin 9 Return", "Value; Value Bool n1; Value Bool; Bin 3 4 Div s0; Bin 2 5 Unlike s1; Return 6", "3: 0 1 2 3 4; 4: 0 1 2 5"},
	{"Yes Not Neg Len Show Return", "Value Bool n1; Not 2 s0; Neg 3 s1; Len 4 s2; Show 5 s3; Return 6", "1: 0 1 2; 2: 0 1 3; 3: 0 1 4; 4: 0 1 5"},
	{"List Return", "List s0; Return 2", "0: 0 1"},
	{"Nil Yes No List 2 Return", "Value; Value Bool n1; Value Bool; List 3 4 s0; Return 5", "3: 0 1 2 3 4"},
	{"Map Return", "Map s0; Return 2", "0: 0 1"},
	{"Nil Yes No Map 1 Return", "Value; Value Bool n1; Value Bool; Map 3 4 s0; Return 5", "3: 0 1 2 3 4"},
	{"Yes Yes Nil No Map 2 Return", "Value Bool n1; Value Bool n1; Value; Value Bool; Map 2 3 4 5 s0; Return 6", "4: 0 1 2 3 4 5"},
	{"Nil Yes No Get Return", "Value; Value Bool n1; Value Bool; Get 3 4 s0; Return 5", "3: 0 1 2 3 4"},
	{"Nil Nil Yes No Put Return", "Value; Value; Value Bool n1; Value Bool; Put 3 4 5 s0; Return 2", "4: 0 1 2 3 4 5"},
	{"Fn 2 Fn 2 Return", "Fn 1 0 1 n2 s0; Fn 1 0 1 n2 s1; Return 3", "0: 0 1; 1: 0 1 2"},
	{"Cell 1 Nil Fn 3 Return", "Cell 1 s0; Value; Fn n3 s1; Return 4", "0: 0 1; 2: 0 2 3"},
	{"Cell 1 Fn 2 Return", "Cell 1 s0; Fn 2 0 2 n2 s1; Return 3", "0: 0 1; 1: 0 2"},
	{"Nil Call Return", "Value; Call 2 s0; Return 3", "1: 0 1 2"},
	{"Nil Yes No Call 1 Return", "Value; Value Bool n1; Value Bool; Call 3 4 s0; Return 5", "3: 0 1 2 3 4"},
	{"Nil Yes No Call 2 Return", "Value; Value Bool n1; Value Bool; Call 2 3 4 s0; Return 5", "3: 0 1 2 3 4"},
	{"Nil Yes Return", "Value; Value Bool n1; Return 3", ""},
	{"Nil Yes Throw", "Value; Value Bool n1; Throw 3 s0", "2: 0 1 2 3"},
	{"Nil Yes Print Return", "Value; Value Bool n1; Print 3 s0; Return 2", "2: 0 1 2 3"},
	{"Nil Jump 2 Return", "Value; Return 2", ""},
	{"Nil Jump 4 Pop Return Yes Return", "Value; Value Bool n1; Return 3", ""},
	{"Yes Unless 4 Nil Return Load Return", "Value Bool n1; Unless 2 >1 >2 s0 | Value; Return 3 | Return 0", "1: 0 1 2"},
	{"Nil Pop Loop 2", "Value; Jump >1 | Loop >1 s0", "2: 0 1"},
}

// within: a program whose function 1 is this one; it makes 2, which has cells of it and of its own, and 3, which has none of its own.
func within(code string) api.Program {
	over := trials.Caps(api.Cap{N: 1}, api.Cap{Up: true, N: 1}, api.Cap{}, api.Cap{Up: true}, api.Cap{N: 1})
	return api.Program{
		trials.Fn("Cell Cell 1 Fn 1 Return", trials.Locals(2)),
		trials.Fn(code+" Fn 2 Fn 3 Nil Return", trials.Locals(2), trials.Consts(7, "ab"), trials.Caps(api.Cap{}, api.Cap{N: 1})), // what stands behind is not come to
		trials.Fn("Nil Return", over),
		trials.Fn("Nil Return", trials.Caps(api.Cap{Up: true})),
	}
}

// P17.1: each instruction, by hand.
func TestRows(t *testing.T) {
	seen := map[api.Op]bool{}
	for _, r := range rows {
		p := within(r[0])
		for _, i := range p[1].Code[:len(p[1].Code)-4] {
			seen[i.Op] = true
		}
		want(t, p, 1, 0, nil, trials.Graph(2, "Slot n0; Slot n1; "+r[1], r[2]))
	}
	for op := api.OpConst; op <= api.OpPrint; op++ {
		if !seen[op] {
			t.Error(trials.Words()[op], "is not tried")
		}
	}
}
