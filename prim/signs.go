package prim

import "gearbox/api"

// sign is what a Bin does, by functions of two values: of two Ints, of two Texts, of any two. Where it has none for what it meets, it throws.
type sign struct {
	ints  func(s api.Store, a, b int64) Did
	texts func(s api.Store, a, b string) Did
	all   func(s api.Store, a, b api.Val) Did
}

// of: what comes of two values that may be.
func (g sign) of(s api.Store, a, b api.Val) Did {
	switch {
	case g.all != nil:
		return g.all(s, a, b)
	case g.ints != nil && a.Kind == api.Int && b.Kind == api.Int:
		return g.ints(s, a.N, b.N)
	case g.texts != nil && a.Kind == api.Text && b.Kind == api.Text:
		return g.texts(s, object(s, a).S, object(s, b).S)
	}
	return throws(s, wrongKind)
}

// signs: what each Bin does, by its number.
func signs() []sign {
	return []sign{
		api.Add: {
			ints:  func(s api.Store, a, b int64) Did { return comesTo(s, whole(a+b)) },
			texts: func(s api.Store, a, b string) Did { return Text(s, a+b) },
		},
		api.Sub: {ints: func(s api.Store, a, b int64) Did { return comesTo(s, whole(a-b)) }},
		api.Mul: {ints: func(s api.Store, a, b int64) Did { return comesTo(s, whole(a*b)) }},
		api.Div: {ints: unlessZero(func(a, b int64) int64 { return a / b })},
		api.Mod: {ints: unlessZero(func(a, b int64) int64 { return a % b })},
		api.Less: {
			ints:  func(s api.Store, a, b int64) Did { return comesTo(s, truth(a < b)) },
			texts: func(s api.Store, a, b string) Did { return comesTo(s, truth(a < b)) },
		},
		api.Most: {
			ints:  func(s api.Store, a, b int64) Did { return comesTo(s, truth(a <= b)) },
			texts: func(s api.Store, a, b string) Did { return comesTo(s, truth(a <= b)) },
		},
		api.Same:   {all: func(s api.Store, a, b api.Val) Did { return comesTo(s, truth(same(s, a, b))) }},
		api.Unlike: {all: func(s api.Store, a, b api.Val) Did { return comesTo(s, truth(!same(s, a, b))) }},
	}
}

// unlessZero: nothing is divided by 0.
func unlessZero(divided func(a, b int64) int64) func(s api.Store, a, b int64) Did {
	return func(s api.Store, a, b int64) Did {
		if b == 0 {
			return throws(s, byZero)
		}
		return comesTo(s, whole(divided(a, b)))
	}
}
