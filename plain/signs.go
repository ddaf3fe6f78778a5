package plain

import "gearbox/api"

// sign is what a Bin does, by functions of two values: of two Ints, of two Texts, of any two. Where it has none for what it meets, it throws.
type sign struct {
	ints  func(a, b int64) Deed
	texts func(a, b string) Deed
	all   func(s api.Store, a, b api.Val) Deed
}

// Signs is what each Bin does, by its number.
type Signs []sign

// NewSigns: the table, which who works out many operations keeps.
func NewSigns() Signs {
	return Signs{
		api.Add: {
			ints:  func(a, b int64) Deed { return whole(a + b) },
			texts: func(a, b string) Deed { return Text(a + b) },
		},
		api.Sub: {ints: func(a, b int64) Deed { return whole(a - b) }},
		api.Mul: {ints: func(a, b int64) Deed { return whole(a * b) }},
		api.Div: {ints: unlessZero(func(a, b int64) int64 { return a / b })},
		api.Mod: {ints: unlessZero(func(a, b int64) int64 { return a % b })},
		api.Less: {
			ints:  func(a, b int64) Deed { return truth(a < b) },
			texts: func(a, b string) Deed { return truth(a < b) },
		},
		api.Most: {
			ints:  func(a, b int64) Deed { return truth(a <= b) },
			texts: func(a, b string) Deed { return truth(a <= b) },
		},
		api.Same:   {all: func(s api.Store, a, b api.Val) Deed { return truth(same(s, a, b)) }},
		api.Unlike: {all: func(s api.Store, a, b api.Val) Deed { return truth(!same(s, a, b)) }},
	}
}

// Bin: an operation on two values.
func (t Signs) Bin(s api.Store, op api.Bin, a, b api.Val) Deed {
	if int(op) >= len(t) || anyCell(a, b) {
		return Throws(ThrowKind)
	}
	g := t[op]
	switch {
	case g.all != nil:
		return g.all(s, a, b)
	case g.ints != nil && a.Kind == api.Int && b.Kind == api.Int:
		return g.ints(a.N, b.N)
	case g.texts != nil && a.Kind == api.Text && b.Kind == api.Text:
		return g.texts(object(s, a).S, object(s, b).S)
	}
	return Throws(ThrowKind)
}

// unlessZero: nothing is divided by 0.
func unlessZero(divided func(a, b int64) int64) func(a, b int64) Deed {
	return func(a, b int64) Deed {
		if b == 0 {
			return Throws(ThrowZero)
		}
		return whole(divided(a, b))
	}
}

func same(s api.Store, a, b api.Val) bool {
	if a.Kind == api.Text && b.Kind == api.Text {
		return object(s, a).S == object(s, b).S
	}
	return a == b
}
