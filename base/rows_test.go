package base_test

import (
	"testing"

	"gearbox/api"
	"gearbox/trials"
)

// P15.1: the chapter's examples.
func TestExamples(t *testing.T) {
	sum := trials.RegFn(2, "Const >0 n0 x0; Const >1 n1 x1; Bin >0 0 1 Add x2; Print 0 x3; Value >0; Return 0", "0:; 1: 0; 2: 0 1; 3: 0", "0 at 0:")
	want(t, of(t, "print 1 + 2;"), 0, sum)
	wantError(t, of(t, "print 1 + 2;"), 9, api.ErrArg)
}

// written is a function that this one makes, with what it is made over, and its code of registers.
type written struct {
	code                 string
	regs                 int
	made, exits, entries string
}

// rows: each instruction, in a function with two locals (0 and 1), two cells that it is closed over, the constants 7 and "ab".
var rows = []written{
	{"Const Return", 3, "Const >2 n0 x0; Return 2", "0: 0 1", "0 at 0: 0 1"},
	{"Const 1 Const Return", 4, "Const >2 n1 x0; Const >3 n0 x1; Return 3", "0: 0 1; 1: 0 1 2", "0 at 0: 0 1"},
	{"Nil Return", 3, "Value >2; Return 2", "", "0 at 0: 0 1"},
	{"Yes Return", 3, "Value >2 Bool n1; Return 2", "", "0 at 0: 0 1"},
	{"No Nil Return", 4, "Value >2 Bool; Value >3; Return 3", "", "0 at 0: 0 1"},
	{"Load Return", 3, "Move >2 0; Return 2", "", "0 at 0: 0 1"},
	{"Nil Load 1 Return", 4, "Value >2; Move >3 1; Return 3", "", "0 at 0: 0 1"},
	{"Nil Store Nil Return", 3, "Value >2; Move >0 2; Value >2; Return 2", "", "0 at 0: 0 1"},
	{"Nil Yes Store 1 Return", 4, "Value >2; Value >3 Bool n1; Move >1 3; Return 2", "", "0 at 0: 0 1"},
	{"Cell Cell 1 Nil Return", 3, "Cell >0 0 x0; Cell >1 1 x1; Value >2; Return 2", "0: 0 1; 1: 0 1", "0 at 0: 0 1"},
	{"Nil Cell 1 Return", 3, "Value >2; Cell >1 1 x0; Return 2", "1: 0 1 2", "0 at 0: 0 1"},
	{"CellLoad CellLoad 1 Return", 4, "CellLoad >2 0 x0; CellLoad >3 1 x1; Return 3", "0: 0 1; 1: 0 1 2", "0 at 0: 0 1"},
	{"Nil Yes CellStore 1 CellStore No Return", 4, "Value >2; Value >3 Bool n1; CellStore 1 3 x0; CellStore 0 2 x1; Value >2 Bool; Return 2", "2: 0 1 2 3; 3: 0 1 2", "0 at 0: 0 1"},
	{"Up Up 1 Return", 4, "Up >2 n0; Up >3 n1; Return 3", "", "0 at 0: 0 1"},
	{"Nil Yes UpStore 1 UpStore Nil Return", 4, "Value >2; Value >3 Bool n1; UpStore 3 n1 x0; UpStore 2 n0 x1; Value >2; Return 2", "2: 0 1 2 3; 3: 0 1 2", "0 at 0: 0 1"},
	{"Nil Yes Pop Return", 4, "Value >2; Value >3 Bool n1; Return 2", "", "0 at 0: 0 1"},
	{"Nil Dup Dup Return", 5, "Value >2; Move >3 2; Move >4 3; Return 4", "", "0 at 0: 0 1"},
	{"Nil Yes Bin 1 Return", 4, "Value >2; Value >3 Bool n1; Bin >2 2 3 Add x0; Return 2", "2: 0 1 2 3", "0 at 0: 0 1"},
	{"Nil Yes No Bin 4 Bin 9 Return", 5, "Value >2; Value >3 Bool n1; Value >4 Bool; Bin >3 3 4 Div x0; Bin >2 2 3 Unlike x1; Return 2", "3: 0 1 2 3 4; 4: 0 1 2 3", "0 at 0: 0 1"},
	{"Nil Yes Not Neg Len Show Return", 4, "Value >2; Value >3 Bool n1; Not >3 3 x0; Neg >3 3 x1; Len >3 3 x2; Show >3 3 x3; Return 3", "2: 0 1 2 3; 3: 0 1 2 3; 4: 0 1 2 3; 5: 0 1 2 3", "0 at 0: 0 1"},
	{"Nil Jump 2 Return", 3, "Value >2; Jump n2; Return 2", "", "0 at 0: 0 1"},
	{"Yes Unless 4 Nil Return No Return", 3, "Value >2 Bool n1; Unless 2 n4 x0; Value >2; Return 2; Value >2 Bool; Return 2", "1: 0 1 2", "0 at 0: 0 1"},
	{"Nil Pop Loop", 3, "Value >2; Loop n0 x0", "2: 0 1", "0 at 0: 0 1"},
	{"Cell Loop 1", 2, "Cell >0 0 x0; Loop n1 x1", "0: 0 1; 1: 0 1", "0 at 0: 0 1; 1 at 1: 0 1"},
	{"List Return", 3, "List >2 x0; Return 2", "0: 0 1", "0 at 0: 0 1"},
	{"Nil Yes No List 2 Return", 5, "Value >2; Value >3 Bool n1; Value >4 Bool; List >3 3 4 x0; Return 3", "3: 0 1 2 3 4", "0 at 0: 0 1"},
	{"Map Return", 3, "Map >2 x0; Return 2", "0: 0 1", "0 at 0: 0 1"},
	{"Nil Yes No Map 1 Return", 5, "Value >2; Value >3 Bool n1; Value >4 Bool; Map >3 3 4 x0; Return 3", "3: 0 1 2 3 4", "0 at 0: 0 1"},
	{"Nil Nil Nil Nil Map 2 Return", 6, "Value >2; Value >3; Value >4; Value >5; Map >2 2 3 4 5 x0; Return 2", "4: 0 1 2 3 4 5", "0 at 0: 0 1"},
	{"Nil Yes No Get Return", 5, "Value >2; Value >3 Bool n1; Value >4 Bool; Get >3 3 4 x0; Return 3", "3: 0 1 2 3 4", "0 at 0: 0 1"},
	{"Nil Nil Yes No Put Return", 6, "Value >2; Value >3; Value >4 Bool n1; Value >5 Bool; Put 3 4 5 x0; Return 2", "4: 0 1 2 3 4 5", "0 at 0: 0 1"},
	{"Fn 2 Fn 2 Return", 4, "Fn >2 1 0 1 n2 x0; Fn >3 1 0 1 n2 x1; Return 3", "0: 0 1; 1: 0 1 2", "0 at 0: 0 1"},
	{"Nil Fn 3 Return", 4, "Value >2; Fn >3 n3 x0; Return 3", "1: 0 1 2", "0 at 0: 0 1"},
	{"Nil Call Return", 3, "Value >2; Call >2 2 x0; Return 2", "1: 0 1 2", "0 at 0: 0 1"},
	{"Nil Yes No Call 1 Return", 5, "Value >2; Value >3 Bool n1; Value >4 Bool; Call >3 3 4 x0; Return 3", "3: 0 1 2 3 4", "0 at 0: 0 1"},
	{"Nil Yes No Call 2 Return", 5, "Value >2; Value >3 Bool n1; Value >4 Bool; Call >2 2 3 4 x0; Return 2", "3: 0 1 2 3 4", "0 at 0: 0 1"},
	{"Nil Yes Return", 4, "Value >2; Value >3 Bool n1; Return 3", "", "0 at 0: 0 1"},
	{"Nil Yes Throw", 4, "Value >2; Value >3 Bool n1; Throw 3 x0", "2: 0 1 2 3", "0 at 0: 0 1"},
	{"Nil Yes Print Return", 4, "Value >2; Value >3 Bool n1; Print 3 x0; Return 2", "2: 0 1 2 3", "0 at 0: 0 1"},
}

// within: a program whose function 1 is this one; it makes 2, which has cells of it and of its own, and 3, which has none of its own.
func within(code string, parts ...trials.Part) api.Program {
	parts = append([]trials.Part{trials.Locals(2), trials.Consts(7, "ab"), trials.Caps(api.Cap{}, api.Cap{N: 1})}, parts...)
	over := trials.Caps(api.Cap{N: 1}, api.Cap{Up: true, N: 1}, api.Cap{}, api.Cap{Up: true}, api.Cap{N: 1})
	return api.Program{
		trials.Fn("Cell Cell 1 Fn 1 Return", trials.Locals(2)),
		trials.Fn(code+" Fn 2 Fn 3 Nil Return", parts...), // what stands behind is not come to
		trials.Fn("Nil Return", over),
		trials.Fn("Nil Return", trials.Caps(api.Cap{Up: true})),
	}
}

// P15.1: each row of the chapter's table, by hand.
func TestRows(t *testing.T) {
	seen := map[api.Op]bool{}
	for _, r := range rows {
		p := within(r.code)
		for _, i := range p[1].Code[:len(p[1].Code)-4] {
			seen[i.Op] = true
		}
		want(t, p, 1, trials.RegFn(r.regs, r.made, r.exits, r.entries))
	}
	for op := api.OpConst; op <= api.OpPrint; op++ {
		if !seen[op] {
			t.Error(trials.Words()[op], "is not tried")
		}
	}
}

// P15.1: a function without locals has the stack alone.
func TestNoLocals(t *testing.T) {
	p := api.Program{trials.Fn("Nil Dup Not Bin 9 Return")}
	want(t, p, 0, trials.RegFn(2, "Value >0; Move >1 0; Not >1 1 x0; Bin >0 0 1 Unlike x1; Return 0", "2: 0 1; 3: 0 1", "0 at 0:"))
	want(t, api.Program{trials.Fn("Loop")}, 0, trials.RegFn(0, "Loop n0 x0", "0:", "0 at 0:"))
	want(t, api.Program{trials.Fn("Loop", trials.Locals(3))}, 0, trials.RegFn(3, "Loop n0 x0", "0: 0 1 2", "0 at 0: 0 1 2"))
}
