package show

import "gearbox/api"

// checker asks of the objects that a value leads to whether they may be: the form of each as soon as it is met, so that no text is held against others that is longer than texts are; what each holds when it is gone to.
type checker struct{ *tour }

// mayBe: may a value be, what its object holds aside?
func (c checker) mayBe(v api.Val) bool {
	switch v.Kind {
	case api.Nil:
		return v.N == 0
	case api.Bool:
		return v.N == 0 || v.N == 1
	case api.Int:
		return true
	}
	c.meet(v)
	o, ok := lead(c.store, v)
	return ok && hasForm(o)
}

// holds: may the values of an object be in it?
func (c checker) holds(o api.Obj) bool {
	for _, v := range o.L {
		if (v.Kind == api.Cell) != (o.Kind == api.Func) || !c.mayBe(v) {
			return false
		}
	}
	return o.Kind != api.Map || c.keysDiffer(o.L)
}

// keysDiffer: are no two keys of a Map the same? They are looked up, since a map may have too many of them to hold each against all others.
func (c checker) keysDiffer(l []api.Val) bool {
	texts, others := map[string]int{}, map[api.Val]int{}
	for i := 0; i < len(l); i += 2 {
		o, _ := lead(c.store, l[i])
		if o.Kind == api.Text {
			texts[o.S]++
		} else {
			others[l[i]]++
		}
	}
	return len(texts)+len(others) == len(l)/2
}

// hasForm: is an object as the document says, the values in it aside?
func hasForm(o api.Obj) bool {
	n := len(o.L)
	switch o.Kind {
	case api.Text:
		return len(o.S) <= api.MaxText && n == 0 && o.Room == 0 && o.Fn == 0
	case api.List:
		return n <= api.MaxItems && hasRoom(o) && o.S == "" && o.Fn == 0
	case api.Map:
		return n%2 == 0 && n <= 2*api.MaxItems && hasRoom(o) && o.S == "" && o.Fn == 0
	case api.Func:
		return o.Fn >= 0 && o.Fn < api.MaxFns && o.S == "" && o.Room == 0
	}
	return n == 1 && o.S == "" && o.Room == 0 && o.Fn == 0 // a Cell
}

// hasRoom: has a List or a Map room for its values, and for no more than may be?
func hasRoom(o api.Obj) bool { return o.Room >= len(o.L) && o.Room <= 4*api.MaxItems }
