package shapes

import "gearbox/api"

// Part is an instruction of registers, or a node of a graph, but for where its values are.
type Part struct {
	Args int // how many
	N    int64
	Kind api.Kind
	Pc   int // the place at which it falls; of a part that falls nowhere: any
}

// Shape: may a part of a function be?
type Shape func(f *Function, x Part) bool

// number: N is from the least to the greatest one, and Kind is not named.
func (x Part) number(least, greatest int) bool {
	return x.N >= int64(least) && x.N <= int64(greatest) && x.Kind == api.Nil
}

func (x Part) plain() bool { return x.number(0, 0) }

// Takes: so many args, and nothing else.
func Takes(n int) Shape {
	return func(_ *Function, x Part) bool { return x.Args == n && x.plain() }
}

// Numbered: no args, and one of so many numbers.
func Numbered(many int) Shape {
	return func(_ *Function, x Part) bool { return x.Args == 0 && x.number(0, many-1) }
}

// Const: one of the function's.
func Const(f *Function, x Part) bool { return Numbered(len(f.code.Consts))(f, x) }

// Value: one that is no object.
func Value(_ *Function, x Part) bool { return x.Args == 0 && IsValue(x.Kind, x.N) }

func (f *Function) hasCap(x Part) bool { return x.number(0, len(f.code.Caps)-1) }

// Up: what a cell holds that the function is closed over.
func Up(f *Function, x Part) bool { return x.Args == 0 && f.hasCap(x) }

// UpStore: such a cell holds a value.
func UpStore(f *Function, x Part) bool { return x.Args == 1 && f.hasCap(x) }

// Bin: an operation on two values, one of those up to the last one.
func Bin(last api.Bin) Shape {
	return func(_ *Function, x Part) bool { return x.Args == 2 && x.number(int(api.Add), int(last)) }
}

// Guard: of a kind of which values are that a program gets hold of.
func Guard(_ *Function, x Part) bool { return x.Args == 1 && x.N == 0 && x.Kind < api.Cell }

// List: of however many values.
func List(_ *Function, x Part) bool { return x.plain() }

// Map: of keys, each with its value.
func Map(_ *Function, x Part) bool { return x.Args%2 == 0 && x.plain() }

// Fn: one that the function makes, over as many cells as are the frame's own.
func Fn(f *Function, x Part) bool {
	return x.number(0, len(f.cells)-1) && x.Args == f.cells[x.N]
}

// Call: as the one at its place takes it.
func Call(f *Function, x Part) bool {
	i := f.code.Code[x.Pc]
	return i.Op == api.OpCall && x.Args == i.A+1 && x.plain()
}
