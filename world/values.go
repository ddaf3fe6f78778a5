package world

import (
	"slices"

	"gearbox/api"
	"gearbox/prim"
)

// value: nothing is made.
func (w *World) value(v api.Val) prim.Did { return prim.Did{Store: w.store, Val: v} }

func (w *World) constant(c api.Const) prim.Did {
	if c.Kind == api.Text {
		return prim.Text(w.store, c.S)
	}
	return w.value(api.Val{Kind: api.Int, N: c.N})
}

// holds: a cell has another value then.
func (w *World) holds(c, v api.Val) prim.Did {
	if c.Kind != api.Cell || v.Kind == api.Cell {
		return prim.Did{Thrown: "kind"}
	}
	s := slices.Clone(w.store)
	s[c.N-1].L = []api.Val{v}
	return prim.Did{Store: s}
}

func (w *World) held(c api.Val) prim.Did {
	if c.Kind != api.Cell {
		return prim.Did{Thrown: "kind"}
	}
	return w.value(w.store[c.N-1].L[0])
}

// closure: a function over cells, some of them from the locals of a frame.
func (w *World) closure(f *frame, fn int, local func(n int) api.Val) prim.Did {
	var cells []api.Val
	for _, c := range w.Program[fn].Caps {
		if c.Up {
			cells = append(cells, w.store[f.closed.N-1].L[c.N])
		} else {
			cells = append(cells, local(c.N))
		}
	}
	return prim.Fn(w.store, fn, cells)
}

// onValues: an operation of values alone, by the Op that does it in the first gear.
func (w *World) onValues(op api.Op, a int, l []api.Val) prim.Did {
	s := w.store
	switch op {
	case api.OpBin:
		return prim.Bin(s, api.Bin(a), l[0], l[1])
	case api.OpNot:
		return prim.Not(s, l[0])
	case api.OpNeg:
		return prim.Neg(s, l[0])
	case api.OpLen:
		return prim.Len(s, l[0])
	case api.OpShow:
		return prim.Show(s, l[0])
	case api.OpList:
		return prim.List(s, l)
	case api.OpMap:
		return prim.Map(s, l)
	case api.OpGet:
		return prim.Get(s, l[0], l[1])
	case api.OpPut:
		return prim.Put(s, l[0], l[1], l[2])
	}
	// what is printed has a text, or throws
	if d := prim.Show(s, l[0]); d.Thrown != "" {
		return d
	}
	return w.value(api.Val{})
}
