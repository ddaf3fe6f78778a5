package model_test

import (
	"testing"

	"gearbox/api"
)

// P12.1: cells of locals, of values of every kind.
func TestCells(t *testing.T) {
	for _, z := range zoo {
		if z.kind == "cell" {
			wantOut(t, tried("Load 0 Store 1 Cell 1 Yes", "Print Nil Return", locals(2)), "kind") // a cell of a cell
			wantOut(t, tried("Load 0 CellStore 0 Yes", "Print Nil Return"), "kind")               // a cell in a cell
			wantOut(t, tried("Cell 1 Load 0 CellStore 1 Yes", "Print Nil Return", locals(2)), "kind")
			wantOut(t, tried("Load 0 Store 1 CellLoad 1", "Print Nil Return", locals(2)), "7")
			wantOut(t, tried("Load 0 Store 1 Yes CellStore 1 CellLoad 0", "Print Nil Return", locals(2)), "yes")
			continue
		}
		wantOut(t, tried(z.code+" Store 1 Cell 1 CellLoad 1", "Print Nil Return", locals(2)), z.text)
		wantOut(t, tried(z.code+" CellStore 0 CellLoad 0", "Print Nil Return"), z.text)
		wantOut(t, tried(z.code+" Store 1 CellLoad 1", "Print Nil Return", locals(2)), "kind")
		wantOut(t, tried(z.code+" Store 1 Nil CellStore 1 Yes", "Print Nil Return", locals(2)), "kind")
		wantOut(t, tried(z.code+" Store 1 Nil CellStore 1 Yes", "Pop Load 1 Print Nil Return", locals(2)), z.text) // which stays
	}
	wantOut(t, tried("Cell 1 CellLoad 1", "Print Nil Return", locals(2)), "nil")
}

// one: the function 1 is closed over the local 1 of the main one, and does this.
func closed(code, body string, more ...func(*api.Fn)) api.Program {
	p := tried(code, "Print Nil Return", locals(3))
	p[1] = fn(body, append(more, caps(api.Cap{N: 1}), consts(7, "ab", 3, "b"))...)
	return append(p, fn("Nil Return"))
}

// P12.1: the cells that a frame's Func is closed over, with values of every kind in them.
func TestUp(t *testing.T) {
	for _, z := range zoo {
		switch z.kind {
		case "cell":
			wantOut(t, closed("Cell 1 Fn 1 Load 1 Call 1", "Load UpStore Nil Return", params(1)), "kind")
			wantOut(t, closed("Cell 1 Fn 1 Load 1 Call 1", "Load UpStore Nil Jump 4 Print Up Return", params(1), handlers(0, 3, 4, 0)), "kind nil")
		case "func":
			wantOut(t, closed("Fn 2 Store 1 Cell 1 Fn 1 Call 0", "Up Return"), "fn 2")
		default:
			wantOut(t, closed(z.code+" Store 1 Cell 1 Fn 1 Call 0", "Up Return"), z.text)
			wantOut(t, closed("Cell 1 Fn 1 Call 0 Pop CellLoad 1", z.code+" UpStore Nil Return"), z.text)
		}
	}
	// what one changes others see, as long as it is the same cell
	wantOut(t, closed("Const 0 Store 1 Cell 1 Fn 1 Dup Store 2 Call 0 Pop Load 2 Call 0 Pop CellLoad 1", "Up Const 2 Bin 1 UpStore Nil Return"), "13")
	wantOut(t, closed("Const 0 Store 1 Cell 1 Fn 1 Nil Store 1 Cell 1 Yes CellStore 1 Call 0", "Up Return"), "7")
	wantOut(t, closed("Const 0 Store 1 Cell 1 Fn 1 Yes CellStore 1 Call 0", "Up Return"), "yes")
}

// P12.1: a function is closed over locals that hold cells, and over cells that the one that makes it is closed over; in the order of its Caps.
func TestFn(t *testing.T) {
	for _, z := range zoo {
		w := "kind"
		if z.kind == "cell" {
			w = "7"
		}
		p := closed(z.code+" Store 1 Fn 1 Call 0", "Up Return")
		if z.kind == "func" {
			p = closed("Fn 2 Store 1 Fn 1 Call 0", "Up Return")
		}
		wantOut(t, p, w)
	}
	main := fn("Const Store Cell Const 1 Store 1 Cell 1 Const 2 Store 2 Cell 2 Fn 1 Call Print Nil Return", locals(3), consts(1, 2, 3))
	outer := fn("Const Store Cell Fn 2 Call Return", locals(1), consts(4), caps(api.Cap{N: 2}, api.Cap{N: 0}, api.Cap{N: 1}))
	inner := fn("Up Up 1 Up 2 Up 3 List 4 Return", caps(api.Cap{Up: true, N: 1}, api.Cap{N: 0}, api.Cap{Up: true, N: 0}, api.Cap{Up: true, N: 1}))
	wantOut(t, api.Program{main, outer, inner}, "[1, 4, 3, 1]")
	inner = fn("Const UpStore 3 Up Return", caps(inner.Caps...), consts(9)) // one cell twice
	wantOut(t, api.Program{main, outer, inner}, "9")
	// each time it is made it is another one
	p := closed("Cell 1 Fn 1 Fn 1 Bin 8", "Up Return")
	wantOut(t, p, "no")
}

// P12.1: cells are handed over, and given back, as other values are; and where none is asked for they are thrown at.
func TestCellsGoOver(t *testing.T) {
	p := tried("Fn 1 Load 0 Call 1", "Print Nil Return")
	p[1] = fn("CellLoad Return", params(1))
	wantOut(t, p, "7")
	p = tried("Fn 1 Load 0 Call 1 Store 1 CellLoad 1", "Print Nil Return", locals(2))
	p[1] = fn("Yes CellStore Load Return", params(1))
	wantOut(t, p, "yes")
	p = tried("Fn 1 Call 0 Store 1 CellLoad 1", "Print Nil Return", locals(2))
	p[1] = fn("Cell Load Return", locals(1))
	wantOut(t, p, "nil")
	wantOut(t, tried("Load 0 Throw", "Print Nil Return"), "kind")
	wantOut(t, tried("Load 0 Call 0", "Print Nil Return"), "kind")
	wantOut(t, api.Program{fn("Cell Load Return", locals(1))}, "")
}
