// Package plain holds what operations on values of a plain store do, for prim, which does them on copies, and for machines, which do them in stores of their own. It is no layer.
package plain

import "gearbox/api"

// What is thrown by the machine.
const (
	ThrowKind   = "kind"
	ThrowArgs   = "args"
	ThrowDeep   = "deep"
	ThrowZero   = "zero"
	ThrowBounds = "bounds"
	ThrowItems  = "items"
	ThrowGreat  = "great"
)

// Deed is an operation that was worked out and is not done yet, so that its words can be asked for in between. All operations take values that may be in their store.
type Deed struct {
	Thrown string  // "": nothing
	Words  int     // how many it asks for
	Val    api.Val // what it comes to, unless it makes an object
	New    api.Obj // what it makes; of the kind Nil: nothing
	Change Change
}

// Change is what an object of a store has then.
type Change struct {
	Of   int64     // its number; 0: there is no change
	At   int       // from which place on it has other values
	L    []api.Val // these, for those that stood there, and behind them
	Room int
}

// Throws: nothing is done but that a text is thrown.
func Throws(text string) Deed { return Deed{Thrown: text} }

// On: the change is done in a store.
func (c Change) On(s api.Store) {
	if c.Of == 0 {
		return
	}
	o := &s[c.Of-1]
	n := copy(o.L[c.At:], c.L)
	o.L = append(o.L, c.L[n:]...)
	o.Room = c.Room
}

func comesTo(v api.Val) Deed { return Deed{Val: v} }

func whole(n int64) Deed { return comesTo(api.Val{Kind: api.Int, N: n}) }

func truth(holds bool) Deed {
	if holds {
		return comesTo(api.Val{Kind: api.Bool, N: 1})
	}
	return comesTo(api.Val{Kind: api.Bool})
}

// object: the one that a value leads to.
func object(s api.Store, v api.Val) api.Obj { return s[v.N-1] }

// anyCell: is one of these a cell?
func anyCell(l ...api.Val) bool {
	for _, v := range l {
		if v.Kind == api.Cell {
			return true
		}
	}
	return false
}
