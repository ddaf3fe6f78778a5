package gen

import (
	"slices"

	"gearbox/api"
)

// writer writes a function: it has what the function will be, as far as it is written.
type writer struct {
	api.Fn
	program *program
	around  *writer // the writer of the function around it, which waits; of the main one none
	cells   []bool  // of each local that there will be, whether it is a cell
	known   []local // the function's own, in the order in which they were come to
	numbers map[api.Const]int
	deep    int // how deep the stack is behind what is written
	deepest int
}

// local is a name that is known, as a local of the function.
type local struct {
	name string
	at   int
}

// whole: all of a function's code.
func (w *writer) whole(x *api.Expr) {
	for _, name := range x.Params {
		if n := w.add(name); w.cells[n] {
			w.put(x.Line, api.OpCell, n)
		}
	}
	w.stmts(x.Body)
	w.put(x.Line, api.OpNil, 0)
	w.put(x.Line, api.OpReturn, 0)
}

func (w *writer) isTooGreat() bool {
	return len(w.Code) > api.MaxCode || w.deepest > api.MaxStack
}

// put: an instruction behind the others.
func (w *writer) put(line int, op api.Op, a int) {
	w.Code = append(w.Code, api.Ins{Op: op, A: a})
	w.Lines = append(w.Lines, line)
	w.deep += change(op, a)
	w.deepest = max(w.deepest, w.deep)
}

// change: how much deeper the stack is behind an instruction than ahead of it.
func change(op api.Op, a int) int {
	switch op {
	case api.OpConst, api.OpNil, api.OpYes, api.OpNo, api.OpLoad, api.OpCellLoad, api.OpUp, api.OpDup, api.OpFn:
		return 1
	case api.OpCell, api.OpNot, api.OpNeg, api.OpLen, api.OpShow, api.OpJump, api.OpLoop:
		return 0
	case api.OpList:
		return 1 - a
	case api.OpMap:
		return 1 - 2*a
	case api.OpCall:
		return -a
	case api.OpPut:
		return -3
	}
	return -1
}

// here: the place of what is written next.
func (w *writer) here() int { return len(w.Code) }

// jump: an instruction that names a place further on, which is not known yet. What is answered is called where that place is.
func (w *writer) jump(line int, op api.Op) func() {
	at := w.here()
	w.put(line, op, 0)
	return func() { w.Code[at].A = w.here() }
}

// constant: the number of one; a new one, if it did not come yet.
func (w *writer) constant(c api.Const) int {
	n, ok := w.numbers[c]
	if !ok {
		n = len(w.Consts)
		w.numbers[c] = n
		w.Consts = append(w.Consts, c)
	}
	return n
}

// add: one more local, which is known from now on.
func (w *writer) add(name string) int {
	n := w.Locals
	w.Locals++
	w.known = append(w.known, local{name, n})
	return n
}

// meaning of a name, told as a function within this one has it in its Caps: a local of this one, or a cell that it is closed over. Behind scope.Fns there is one for each name that is used.
func (w *writer) meaning(name string) api.Cap {
	for _, x := range slices.Backward(w.known) {
		if x.name == name {
			return api.Cap{N: x.at}
		}
	}
	return api.Cap{Up: true, N: slices.Index(w.Caps, w.around.meaning(name))}
}

// reach is the instructions that read what a name means, or those that write it.
type reach struct{ local, cell, up api.Op }

// named: the one of them that a name asks for.
func (w *writer) named(name string, ops reach) (api.Op, int) {
	m := w.meaning(name)
	switch {
	case m.Up:
		return ops.up, m.N
	case w.cells[m.N]:
		return ops.cell, m.N
	}
	return ops.local, m.N
}
