package build

import "gearbox/api"

// none: a node or an end has no state; a way comes from no place.
const none = -1

// lay tells how the places of a function lie to which ways lead from one of them on. A way to a handler is none: what throws falls.
type lay struct {
	led     []bool // of each place: does a way lead to it that does not go back?
	from    []int  // of each such place: the first one from which such a way leads to it
	begins  []bool // of each such place: does a block begin there?
	turned  []bool // of each such place: does a loop lead back to it?
	written []bool // of each local: does an instruction at such a place write it?
}

func layOf(f *api.Fn, pc int) *lay {
	many := len(f.Code)
	l := &lay{led: make([]bool, many), from: make([]int, many), begins: make([]bool, many), turned: make([]bool, many), written: make([]bool, f.Locals)}
	ahead := none
	l.lead(none, pc)
	for at, i := range f.Code {
		if !l.led[at] {
			continue
		}
		if l.from[at] != ahead { // the one ahead does not lead there, or is not alone
			l.begins[at] = true
		}
		l.leave(at, i)
		ahead = at
	}
	return l
}

// leave: where ways from a place lead to.
func (l *lay) leave(at int, i api.Ins) {
	switch i.Op {
	case api.OpReturn, api.OpThrow:
		return
	case api.OpLoop:
		l.begins[i.A], l.turned[i.A] = true, true
		return
	case api.OpJump:
		l.lead(at, i.A)
		return
	case api.OpUnless:
		l.begins[at+1] = true
		l.lead(at, i.A)
	case api.OpStore, api.OpCell:
		l.written[i.A] = true
	}
	l.lead(at, at+1)
}

func (l *lay) lead(from, to int) {
	if !l.led[to] {
		l.led[to], l.from[to] = true, from
	}
}
