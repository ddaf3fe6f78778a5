package base

import "gearbox/api"

// none: an instruction has no To, or no exit.
const none = -1

// writer writes a function's code of registers, place by place.
type writer struct {
	p         api.Program
	fn        *api.Fn
	depths    []int // of each place: how deep the stack is; below 0: it is not come to
	templates templates
	at        []int // of each place: the first instruction that is made for it, or behind it
	pc        int   // the place that it writes for
	code      []api.RegIns
	exits     []api.Exit
}

func newWriter(p api.Program, fn int, depths []int) *writer {
	w := &writer{p: p, fn: &p[fn], depths: depths, templates: newTemplates()}
	w.at = make([]int, len(depths))
	made := 0
	for pc := range len(w.at) {
		w.at[pc] = made
		if w.template(pc) != nil {
			made++
		}
	}
	return w
}

// template: of the instruction at a place; nil, if none is made for it.
func (w *writer) template(pc int) template {
	if w.depths[pc] < 0 {
		return nil
	}
	return w.templates[w.fn.Code[pc].Op]
}

// slots: how many there are at a place that is come to.
func (w *writer) slots(pc int) int { return w.fn.Locals + w.depths[pc] }

func (w *writer) write() {
	for pc := range len(w.fn.Code) {
		if t := w.template(pc); t != nil {
			w.pc = pc
			w.code = append(w.code, t(w, w.slots(pc), w.fn.Code[pc].A))
		}
	}
}

// sure: an instruction that neither falls nor asks for words, so that its frame need not be told.
func sure(op api.RegOp, to, n int, args ...int) api.RegIns {
	return api.RegIns{Op: op, To: to, Args: args, N: int64(n), Exit: none}
}

// told: an instruction whose frame is told by an exit of its own.
func (w *writer) told(op api.RegOp, to, n int, args ...int) api.RegIns {
	i := sure(op, to, n, args...)
	i.Exit = len(w.exits)
	w.exits = append(w.exits, api.Exit{Pc: w.pc, Slots: firstLocs(w.slots(w.pc))})
	return i
}

// ofLast: what comes of so many of the last values stands where the first of them stood.
func (w *writer) ofLast(op api.RegOp, t, many int) api.RegIns {
	args := make([]int, many)
	for k := range many {
		args[k] = t - many + k
	}
	return w.told(op, t-many, 0, args...)
}

// ownCells: the locals whose cells a function that is made here is closed over.
func (w *writer) ownCells(made int) []int {
	var l []int
	for _, c := range w.p[made].Caps {
		if !c.Up {
			l = append(l, c.N)
		}
	}
	return l
}

// firstLocs: the first so many registers, as an exit tells them.
func firstLocs(many int) []api.Loc {
	l := make([]api.Loc, many)
	for k := range many {
		l[k].Reg = k
	}
	return l
}

// firstRegs: likewise, as an entry tells them.
func firstRegs(many int) []int {
	l := make([]int, many)
	for k := range many {
		l[k] = k
	}
	return l
}

// entries: the beginning, and where loops begin.
func (w *writer) entries() []api.Entry {
	begins := make([]bool, len(w.fn.Code))
	begins[0] = true
	for pc, i := range w.fn.Code {
		if i.Op == api.OpLoop && w.depths[pc] >= 0 {
			begins[i.A] = true
		}
	}
	var l []api.Entry
	for pc, here := range begins {
		if here {
			l = append(l, api.Entry{Pc: pc, At: w.at[pc], Slots: firstRegs(w.slots(pc))})
		}
	}
	return l
}
