package heaped

import (
	"gearbox/api"
	"gearbox/machine"
	"gearbox/object"
)

// Bin: of two values. What signs do they do on plain values: Texts are handed to them in a small store, and all others they take as they are.
func (g *Ground) Bin(op api.Bin, a, b api.Val) machine.Did {
	var texts api.Store
	plainly := func(v api.Val) api.Val {
		if v.Kind != api.Text {
			return v
		}
		s, _ := object.Text(g.heap, v)
		texts = append(texts, api.Obj{Kind: api.Text, S: s})
		return api.Val{Kind: api.Text, N: int64(len(texts))}
	}
	x, y := plainly(a), plainly(b)
	d := g.signs.Bin(texts, op, x, y)
	if d.New.Kind == api.Text {
		return g.Text(d.New.S)
	}
	return machine.Did{Val: d.Val, Thrown: d.Thrown}
}
