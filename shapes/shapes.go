// Package shapes tells what may be made of a function's code: what an instruction of registers, or a node of a graph, may have. It is no layer.
package shapes

import "gearbox/api"

// Function is one of a program that may be: what is made of its code keeps to it.
type Function struct {
	program api.Program
	code    *api.Fn
	depths  []int // of each place: how deep its stack is; below 0: it is not come to
	cells   []int // of each function: over how many cells of a frame's own an OpFn of this one makes it; below 0: none does
}

// Of: the function fn of a program, whose places have these depths.
func Of(p api.Program, fn int, depths []int) *Function {
	f := &Function{program: p, code: &p[fn], depths: depths, cells: make([]int, len(p))}
	for n := range f.cells {
		f.cells[n] = -1
	}
	for _, i := range f.code.Code {
		if i.Op == api.OpFn && f.cells[i.A] < 0 {
			f.cells[i.A] = ownCells(p[i.A].Caps)
		}
	}
	return f
}

// ownCells: how many cells are not from further up.
func ownCells(caps []api.Cap) int {
	n := 0
	for _, c := range caps {
		if !c.Up {
			n++
		}
	}
	return n
}

// Slots: how many the function's frame has at a place; false, if that is not come to.
func (f *Function) Slots(pc int) (int, bool) {
	if !Within(pc, len(f.depths)) || f.depths[pc] < 0 {
		return 0, false
	}
	return f.code.Locals + f.depths[pc], true
}

// Within: is it one of the first so many numbers?
func Within(n, many int) bool { return n >= 0 && n < many }

// IsValue: is it a value that is no object?
func IsValue(kind api.Kind, n int64) bool {
	switch kind {
	case api.Nil:
		return n == 0
	case api.Bool:
		return n == 0 || n == 1
	}
	return kind == api.Int
}
