package trials

import "gearbox/api"

// closures: cells of locals, those that a frame's Func is over, and functions that are made.
func (b *book) closures() {
	for _, z := range zoo() {
		b.cells(z)
		b.up(z)
		b.made(z)
	}
	b.cellsOfCells()
	b.sharedCells()
	b.caps()
	b.cellsGoOver()
}

// cells: of a value, in a local.
func (b *book) cells(z animal) {
	if z.kind == "cell" {
		return
	}
	b.name = "cells of locals"
	b.out(printed(z.code+" Store 1 Cell 1 CellLoad 1", Locals(2)), z.text)
	b.out(printed(z.code+" CellStore 0 CellLoad 0"), z.text)
	b.out(printed(z.code+" Store 1 CellLoad 1", Locals(2)), "kind")
	b.out(printed(z.code+" Store 1 Nil CellStore 1 Yes", Locals(2)), "kind")
	b.out(tried(z.code+" Store 1 Nil CellStore 1 Yes", "Pop Load 1 Print Nil Return", Locals(2)), z.text) // which stays
}

func (b *book) cellsOfCells() {
	b.name = "cells of locals"
	b.out(printed("Cell 1 CellLoad 1", Locals(2)), "nil")
	b.out(printed("Load 0 Store 1 Cell 1 Yes", Locals(2)), "kind") // a cell of a cell
	b.out(printed("Load 0 CellStore 0 Yes"), "kind")               // a cell in a cell
	b.out(printed("Cell 1 Load 0 CellStore 1 Yes", Locals(2)), "kind")
	b.out(printed("Load 0 Store 1 Yes CellStore 1 CellLoad 0", Locals(2)), "yes")
}

// closed: the function 1 is closed over the local 1 of the main one, and does this.
func closed(code, body string, parts ...Part) api.Program {
	p := printed(code, Locals(3))
	p[1] = Fn(body, append(parts, Caps(api.Cap{N: 1}), constants())...)
	return append(p, Fn("Nil Return"))
}

// up: a value in the cell that a frame's Func is over.
func (b *book) up(z animal) {
	b.name = "cells of functions"
	switch z.kind {
	case "cell":
		b.out(closed("Cell 1 Fn 1 Load 1 Call 1", "Load UpStore Nil Return", Params(1)), "kind")
		b.out(closed("Cell 1 Fn 1 Load 1 Call 1", "Load UpStore Nil Jump 4 Print Up Return", Params(1), Handlers(0, 3, 4, 0)), "kind", "nil")
	case "func":
		b.out(closed("Fn 2 Store 1 Cell 1 Fn 1 Call 0", "Up Return"), "fn 2")
	default:
		b.out(closed(z.code+" Store 1 Cell 1 Fn 1 Call 0", "Up Return"), z.text)
		b.out(closed("Cell 1 Fn 1 Call 0 Pop CellLoad 1", z.code+" UpStore Nil Return"), z.text)
	}
}

// sharedCells: what one changes others see, as long as it is the same cell.
func (b *book) sharedCells() {
	b.name = "cells of functions"
	b.out(closed("Const 0 Store 1 Cell 1 Fn 1 Dup Store 2 Call 0 Pop Load 2 Call 0 Pop CellLoad 1", "Up Const 2 Bin 1 UpStore Nil Return"), "13")
	b.out(closed("Const 0 Store 1 Cell 1 Fn 1 Nil Store 1 Cell 1 Yes CellStore 1 Call 0", "Up Return"), "7")
	b.out(closed("Const 0 Store 1 Cell 1 Fn 1 Yes CellStore 1 Call 0", "Up Return"), "yes")
	b.out(of(`var g = fn(n) { return [n, fn() { n = n + 1; return n; }]; }; var a = g(1); var b = g(10); a[1](); print a[1](); print b[1](); print a[0];`), "3", "11", "1")
	b.out(of(`var make = fn(n) { return fn(m) { return fn() { return [n, m]; }; }; }; print make(1)(2)(); print make(3)(4)();`), "[1, 2]", "[3, 4]")
}

// made: a function over a local that holds a value.
func (b *book) made(z animal) {
	b.name = "functions that are made"
	switch z.kind {
	case "cell":
		b.out(closed("Load 0 Store 1 Fn 1 Call 0", "Up Return"), "7")
	case "func":
		b.out(closed("Fn 2 Store 1 Fn 1 Call 0", "Up Return"), "kind")
	default:
		b.out(closed(z.code+" Store 1 Fn 1 Call 0", "Up Return"), "kind")
	}
}

// caps: locals that hold cells, and cells that the one that makes a function is closed over; in the order of its Caps.
func (b *book) caps() {
	b.name = "functions that are made"
	main := Fn("Const Store Cell Const 1 Store 1 Cell 1 Const 2 Store 2 Cell 2 Fn 1 Call Print Nil Return", Locals(3), Consts(1, 2, 3))
	outer := Fn("Const Store Cell Fn 2 Call Return", Locals(1), Consts(4), Caps(api.Cap{N: 2}, api.Cap{N: 0}, api.Cap{N: 1}))
	inner := Fn("Up Up 1 Up 2 Up 3 List 4 Return", Caps(api.Cap{Up: true, N: 1}, api.Cap{N: 0}, api.Cap{Up: true, N: 0}, api.Cap{Up: true, N: 1}))
	b.out(api.Program{main, outer, inner}, "[1, 4, 3, 1]")
	inner = Fn("Const UpStore 3 Up Return", Caps(inner.Caps...), Consts(9)) // one cell twice
	b.out(api.Program{main, outer, inner}, "9")
	b.out(closed("Cell 1 Fn 1 Fn 1 Bin 8", "Up Return"), "no") // each time it is made it is another one
}

// cellsGoOver: they are handed over, and given back, as other values are; and where none is asked for they are thrown at.
func (b *book) cellsGoOver() {
	b.name = "cells that go over"
	p := printed("Fn 1 Load 0 Call 1")
	p[1] = Fn("CellLoad Return", Params(1))
	b.out(p, "7")
	p = printed("Fn 1 Load 0 Call 1 Store 1 CellLoad 1", Locals(2))
	p[1] = Fn("Yes CellStore Load Return", Params(1))
	b.out(p, "yes")
	p = printed("Fn 1 Call 0 Store 1 CellLoad 1", Locals(2))
	p[1] = Fn("Cell Load Return", Locals(1))
	b.out(p, "nil")
	b.out(printed("Load 0 Throw"), "kind")
	b.out(printed("Load 0 Call 0"), "kind")
	b.out(api.Program{Fn("Cell Load Return", Locals(1))})
}
