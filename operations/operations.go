// Package operations is what instructions of registers, and nodes of graphs, do with values, on whatever ground these stand. It is no layer.
package operations

import (
	"gearbox/api"
	"gearbox/machine"
	"gearbox/plain"
)

// In is where an operation is done, and what it is told beside values.
type In struct {
	Program api.Program
	Fn      *api.Fn // whose frame it is
	By      api.Val // the Func by which that was called; the main one's: nil
	N       int64
	Kind    api.Kind
}

// Operation: what one with these values comes to, as many as it takes.
type Operation func(g machine.Ground, x In, l []api.Val) machine.Did

// is: an operation that comes to a value, whatever it is.
func is(v api.Val) machine.Did { return machine.Did{Val: v} }

// Const: one of the function's.
func Const(g machine.Ground, x In, _ []api.Val) machine.Did {
	c := x.Fn.Consts[x.N]
	if c.Kind == api.Int {
		return is(api.Val{Kind: api.Int, N: c.N})
	}
	return g.Text(c.S)
}

// Value: one that is no object.
func Value(_ machine.Ground, x In, _ []api.Val) machine.Did {
	return is(api.Val{Kind: x.Kind, N: x.N})
}

// Move: the value itself.
func Move(_ machine.Ground, _ In, l []api.Val) machine.Did { return is(l[0]) }

// Cell: a new one.
func Cell(g machine.Ground, _ In, l []api.Val) machine.Did { return g.Cell(l[0]) }

// CellLoad: the value of a cell.
func CellLoad(g machine.Ground, _ In, l []api.Val) machine.Did { return g.Load(l[0]) }

// CellStore: a cell holds a value.
func CellStore(g machine.Ground, _ In, l []api.Val) machine.Did { return g.Store(l[0], l[1]) }

// Up: the value of a cell of the frame's Func.
func Up(g machine.Ground, x In, _ []api.Val) machine.Did { return g.Load(g.CellOf(x.By, int(x.N))) }

// UpStore: such a cell holds a value.
func UpStore(g machine.Ground, x In, l []api.Val) machine.Did {
	return g.Store(g.CellOf(x.By, int(x.N)), l[0])
}

// Bin: of two values.
func Bin(g machine.Ground, x In, l []api.Val) machine.Did { return g.Bin(api.Bin(x.N), l[0], l[1]) }

// IntBin: of two Ints alone.
func IntBin(g machine.Ground, x In, l []api.Val) machine.Did {
	if l[0].Kind != api.Int || l[1].Kind != api.Int {
		return machine.Did{Thrown: plain.ThrowKind}
	}
	return Bin(g, x, l)
}

// Not: of a Bool.
func Not(_ machine.Ground, _ In, l []api.Val) machine.Did { return machine.Alone(plain.Not(l[0])) }

// Neg: of an Int.
func Neg(_ machine.Ground, _ In, l []api.Val) machine.Did { return machine.Alone(plain.Neg(l[0])) }

// Len: of a Text, a List, a Map.
func Len(g machine.Ground, _ In, l []api.Val) machine.Did { return g.Len(l[0]) }

// Show: a new Text.
func Show(g machine.Ground, _ In, l []api.Val) machine.Did { return g.Show(l[0]) }

// Guard: the value itself, if it is of a kind.
func Guard(_ machine.Ground, x In, l []api.Val) machine.Did {
	if l[0].Kind != x.Kind {
		return machine.Did{Thrown: plain.ThrowKind}
	}
	return is(l[0])
}

// List: a new one.
func List(g machine.Ground, _ In, l []api.Val) machine.Did { return g.List(l) }

// Map: a new one.
func Map(g machine.Ground, _ In, l []api.Val) machine.Did { return g.Map(l) }

// Get: of a Text, a List, a Map.
func Get(g machine.Ground, _ In, l []api.Val) machine.Did { return g.Get(l[0], l[1]) }

// Put: of a List, a Map.
func Put(g machine.Ground, _ In, l []api.Val) machine.Did { return g.Put(l[0], l[1], l[2]) }

// Fn: a new Func; the values are those of its cells that are the frame's own.
func Fn(g machine.Ground, x In, l []api.Val) machine.Did {
	var cells []api.Val
	for _, c := range x.Program[x.N].Caps {
		if c.Up {
			cells = append(cells, g.CellOf(x.By, c.N))
		} else {
			cells, l = append(cells, l[0]), l[1:]
		}
	}
	return g.Fn(int(x.N), cells)
}
