package samples

import (
	"slices"

	"gearbox/api"
)

// Regs: code of registers that may be a function's, and has little to do with what the function does. Depths are those of the function's places.
func Regs(d *Dice, p api.Program, fn int, depths []int) api.RegFn {
	w := &regWriter{dice: d, p: p, f: &p[fn], depths: depths}
	for pc, deep := range depths {
		if deep >= 0 {
			w.places = append(w.places, pc)
		}
	}
	w.code.Regs = w.f.Locals + 1 + d.Below(8)
	w.holds = make([]api.Kind, w.code.Regs)
	w.write()
	return w.code
}

// regWriter writes code of registers.
type regWriter struct {
	dice   *Dice
	p      api.Program
	f      *api.Fn
	depths []int
	places []int // those that are come to
	code   api.RegFn
	holds  []api.Kind // of each register, of what kind the value is that was put there last
	jumps  []int      // instructions that go to a place above, which is not known yet
}

func (w *regWriter) write() {
	for range 3 + w.dice.Below(4) {
		w.makes()
	}
	for range 3 + w.dice.Below(25) {
		if w.dice.Below(3) == 0 {
			w.makes()
		} else {
			w.does()
		}
	}
	w.ends()
	for _, at := range w.jumps {
		w.code.Code[at].N = int64(at + 1 + w.dice.Below(min(6, len(w.code.Code)-at-1)))
	}
	w.entries()
}

func (w *regWriter) entries() {
	taken := w.dice.Below(8) == 0
	for range 1 + w.dice.Below(3) {
		pc := w.places[w.dice.Below(len(w.places))]
		if !taken {
			pc, taken = 0, true
		}
		slots := w.f.Locals + w.depths[pc]
		is := func(e api.Entry) bool { return e.Pc == pc }
		if slots > w.code.Regs || slices.ContainsFunc(w.code.Entries, is) {
			continue
		}
		e := api.Entry{Pc: pc}
		for k := range w.code.Regs {
			e.Slots = append(e.Slots, k)
			with := w.dice.Below(k + 1)
			e.Slots[k], e.Slots[with] = e.Slots[with], e.Slots[k]
		}
		e.Slots = e.Slots[:slots]
		if w.dice.Below(4) == 0 {
			e.At = w.dice.Below(len(w.code.Code))
		}
		w.code.Entries = append(w.code.Entries, e)
	}
}

// ends: the last instruction.
func (w *regWriter) ends() {
	switch w.dice.Below(4) {
	case 0, 1:
		w.put(api.RReturn, 0, -1, w.any())
	case 2:
		w.put(api.RThrow, 0, w.exit(w.place()), w.any())
	case 3:
		w.put(api.RLoop, int64(w.dice.Below(len(w.code.Code)+1)), w.exit(w.place()))
	}
}

func (w *regWriter) any() int { return w.dice.Below(w.code.Regs) }

// of: a register that holds a value of a kind, mostly.
func (w *regWriter) of(kind api.Kind) int {
	r := w.any()
	for try := 0; try < w.code.Regs && w.holds[r] != kind && w.dice.Below(12) > 0; try++ {
		r = (r + 1) % w.code.Regs
	}
	return r
}

// some: so many registers that hold no cells, mostly.
func (w *regWriter) some(n int) []int {
	var l []int
	for range n {
		r := w.any()
		if w.holds[r] == api.Cell {
			r = w.of(api.Int)
		}
		l = append(l, r)
	}
	return l
}

func (w *regWriter) place() int { return w.places[w.dice.Below(len(w.places))] }

// exit: one that tells a frame at a place: mostly a new one.
func (w *regWriter) exit(pc int) int {
	for n, x := range w.code.Exits {
		if x.Pc == pc && w.dice.Below(2) == 0 {
			return n
		}
	}
	x := api.Exit{Pc: pc}
	for range w.f.Locals + w.depths[pc] {
		x.Slots = append(x.Slots, w.loc())
	}
	w.code.Exits = append(w.code.Exits, x)
	return len(w.code.Exits) - 1
}

func (w *regWriter) loc() api.Loc {
	switch w.dice.Below(8) {
	case 0:
		return api.Loc{Reg: -1}
	case 1:
		return api.Loc{Reg: -1, Kind: api.Bool, N: int64(w.dice.Below(2))}
	case 2:
		return api.Loc{Reg: -1, Kind: api.Int, N: int64(w.dice.Below(5)) - 2}
	}
	return api.Loc{Reg: w.any()}
}

// put: an instruction that has no To.
func (w *regWriter) put(op api.RegOp, n int64, exit int, args ...int) *api.RegIns {
	w.code.Code = append(w.code.Code, api.RegIns{Op: op, To: -1, Args: args, N: n, Exit: exit})
	return &w.code.Code[len(w.code.Code)-1]
}

// putTo: one that has a To, and comes to a value of a kind.
func (w *regWriter) putTo(kind api.Kind, op api.RegOp, n int64, exit int, args ...int) *api.RegIns {
	i := w.put(op, n, exit, args...)
	i.To = w.any()
	w.holds[i.To] = kind
	return i
}

// here: an exit at any place.
func (w *regWriter) here() int { return w.exit(w.place()) }

// makes: a value.
func (w *regWriter) makes() {
	switch n := w.dice.Below(4); w.dice.Below(10) {
	case 0:
		w.putTo(api.Bool, api.RValue, int64(n%2), -1).Kind = api.Bool
	case 1, 2:
		w.putTo(api.Int, api.RValue, int64(n)-1, -1).Kind = api.Int
	case 3, 4:
		if c := w.dice.Below(1 + len(w.f.Consts)); c < len(w.f.Consts) {
			w.putTo(w.f.Consts[c].Kind, api.RConst, int64(c), w.here())
			return
		}
		w.putTo(api.Nil, api.RValue, 0, -1)
	case 5:
		w.putTo(api.List, api.RList, 0, w.here(), w.some(n)...)
	case 6:
		w.putTo(api.Map, api.RMap, 0, w.here(), w.some(2*n)...)
	case 7:
		w.putTo(api.Cell, api.RCell, 0, w.here(), w.some(1)...)
	case 8:
		w.makesFn()
	case 9:
		if len(w.f.Caps) > 0 {
			w.putTo(api.Nil, api.RUp, int64(w.dice.Below(len(w.f.Caps))), -1)
		}
	}
}

// makesFn: of a function that this one makes, if it makes any, over cells that are new, mostly; false, if it makes none.
func (w *regWriter) makesFn() (fn, to int, ok bool) {
	var made []int
	for _, i := range w.f.Code {
		if i.Op == api.OpFn {
			made = append(made, i.A)
		}
	}
	if len(made) == 0 {
		return 0, 0, false
	}
	fn = made[w.dice.Below(len(made))]
	var cells []int
	for _, c := range w.p[fn].Caps {
		switch {
		case c.Up:
		case w.dice.Below(6) == 0:
			cells = append(cells, w.of(api.Cell))
		default:
			cells = append(cells, w.putTo(api.Cell, api.RCell, 0, w.here(), w.some(1)...).To)
		}
	}
	to = w.putTo(api.Func, api.RFn, int64(fn), w.here(), cells...).To
	return fn, to, true
}

// does: something with values.
func (w *regWriter) does() {
	bin := int64(1 + w.dice.Below(int(api.Unlike)))
	switch w.dice.Below(15) {
	case 0:
		w.putTo(api.Nil, api.RMove, 0, -1, w.any())
	case 1:
		w.putTo(api.Nil, api.RCellLoad, 0, w.here(), w.of(api.Cell))
	case 2:
		w.put(api.RCellStore, 0, w.here(), w.of(api.Cell), w.some(1)[0])
	case 3:
		w.putTo(api.Bool, api.RNot, 0, w.here(), w.of(api.Bool))
		w.putTo(api.Int, api.RNeg, 0, w.here(), w.of(api.Int))
	case 4:
		w.putTo(api.Int, api.RLen, 0, w.here(), w.of(api.List))
		w.putTo(api.Text, api.RShow, 0, w.here(), w.some(1)...)
	case 5:
		w.putTo(api.Int, api.RBin, bin, w.here(), w.of(api.Int), w.of(api.Int))
	case 6:
		w.putTo(api.Text, api.RBin, int64(api.Add), w.here(), w.of(api.Text), w.of(api.Text))
	case 7:
		w.putTo(api.Int, api.RIntBin, 1+bin%int64(api.Most), w.here(), w.of(api.Int), w.of(api.Int))
	case 8:
		r := w.any()
		w.put(api.RGuard, 0, w.here(), r).Kind = w.holds[r] % api.Cell
	case 9:
		w.putTo(api.Nil, api.RGet, 0, w.here(), w.of(api.Kind(3+w.dice.Below(3))), w.of(api.Int))
	case 10:
		w.put(api.RPut, 0, w.here(), append([]int{w.of(api.Kind(4 + w.dice.Below(2))), w.of(api.Int)}, w.some(1)...)...)
	case 11:
		w.put(api.RPrint, 0, w.here(), w.some(1)...)
	default:
		w.goes()
	}
}

// goes: elsewhere.
func (w *regWriter) goes() {
	switch w.dice.Below(8) {
	case 0:
		w.jumps = append(w.jumps, len(w.code.Code))
		w.put(api.RJump, 0, -1)
	case 1:
		w.jumps = append(w.jumps, len(w.code.Code))
		w.put(api.RUnless, 0, w.here(), w.of(api.Bool))
	case 2:
		w.put(api.RLoop, int64(w.dice.Below(len(w.code.Code)+1)), w.here())
	case 3:
		if len(w.f.Caps) > 0 {
			w.put(api.RUpStore, int64(w.dice.Below(len(w.f.Caps))), w.here(), w.some(1)...)
		}
	default:
		w.calls()
	}
}

// calls: as the function does it at one of its places: what was made just now, mostly.
func (w *regWriter) calls() {
	called := w.of(api.Func)
	fn, made, ok := w.makesFn()
	var l, fit []int
	for _, pc := range w.places {
		if i := w.f.Code[pc]; i.Op == api.OpCall {
			l = append(l, pc)
			if ok && i.A == w.p[fn].Params {
				fit = append(fit, pc)
			}
		}
	}
	if len(fit) > 0 && w.dice.Below(8) > 0 {
		called, l = made, fit
	}
	if len(l) == 0 {
		return
	}
	pc := l[w.dice.Below(len(l))]
	args := append([]int{called}, w.some(w.f.Code[pc].A)...)
	w.putTo(api.Nil, api.RCall, 0, w.exit(pc), args...)
}
