package samples

import "gearbox/api"

// Ways: a program of one function that may be, with ways that no text has: they lead to and fro between its parts, past one another, into the middle of loops, over handlers, to parts at which something is kept on the stack.
func Ways(seed int) api.Program {
	d := Dice(seed)
	w := wanderer{coder: coder{dice: &d, f: &api.Fn{Locals: 1 + d.Below(4)}}}
	w.f.Consts = []api.Const{{Kind: api.Int, N: 1}, {Kind: api.Int, N: 2}, {Kind: api.Text, S: "a"}}
	w.deeps = make([]int, 2+d.Below(10))
	for k := range w.deeps[1:] {
		w.deeps[k+1] = []int{w.deeps[k], w.deeps[k], 0, d.Below(3)}[d.Below(4)]
	}
	for k := range w.deeps {
		w.part(k)
	}
	w.join()
	return api.Program{*w.f}
}

// wanderer writes a function of parts, each of which begins with the stack as deep as it should be there.
type wanderer struct {
	coder
	deeps []int       // of each part
	at    []int       // of each part: its place
	leads map[int]int // of each instruction that leads to a part: which one
}

func (w *wanderer) part(k int) {
	w.at = append(w.at, len(w.f.Code))
	w.deep = w.deeps[k]
	for range w.dice.Below(4) {
		w.something()
	}
	behind := len(w.deeps) - k - 1
	switch n := w.dice.Below(12); {
	case behind > 0 && n < 2:
		w.reach(w.deeps[k+1])
	case behind > 0 && n < 4:
		to := k + 1 + w.dice.Below(behind)
		w.reach(w.deeps[to])
		w.lead(api.OpJump, to, 0)
	case behind > 0 && n < 9:
		w.fork(k)
	case n < 11 && w.back(k):
	default:
		w.reach(w.dice.Below(3))
		w.put(api.OpLoad, w.local(), 1)
		w.put([]api.Op{api.OpReturn, api.OpThrow}[w.dice.Below(2)], 0, -1)
	}
}

// something: that leaves the stack as deep as it was, mostly.
func (w *wanderer) something() {
	switch w.dice.Below(7) {
	case 0, 1:
		w.put(api.OpLoad, w.local(), 1)
		w.put(api.OpConst, w.dice.Below(2), 1)
		w.put(api.OpBin, int(api.Add), -1)
		w.put(api.OpStore, w.local(), -1)
	case 2, 3:
		w.put(api.OpLoad, w.local(), 1)
		w.put(api.OpPrint, 0, -1)
	case 4:
		w.put(api.OpConst, w.dice.Below(len(w.f.Consts)), 1)
		w.put(api.OpStore, w.local(), -1)
	case 5:
		w.put(api.OpLoad, w.local(), 1)
	case 6:
		if w.deep > 0 {
			w.put(api.OpDup, 0, 1)
			w.put(api.OpStore, w.local(), -1)
		}
	}
}

// lead: an instruction that leads to a part.
func (w *wanderer) lead(op api.Op, to, deeper int) {
	if w.leads == nil {
		w.leads = map[int]int{}
	}
	w.leads[len(w.f.Code)] = to
	w.put(op, 0, deeper)
}

// fork: to the next part, or to one behind it, or to that one, too.
func (w *wanderer) fork(k int) {
	w.reach(w.deeps[k+1])
	if w.dice.Below(3) == 0 {
		w.put(api.OpYes+api.Op(w.dice.Below(2)), 0, 1)
	} else {
		w.put(api.OpLoad, w.local(), 1)
		w.put(api.OpConst, w.dice.Below(2), 1)
		w.put(api.OpBin, int(api.Less)+w.dice.Below(3), -1)
	}
	to := k + 1 + w.dice.Below(len(w.deeps)-k-1)
	if w.deeps[to] != w.deeps[k+1] {
		to = k + 1
	}
	w.lead(api.OpUnless, to, -1)
}

// back: to this part or to one ahead of it; false, if its stack is not empty.
func (w *wanderer) back(k int) bool {
	to := w.dice.Below(k + 1)
	if w.deeps[to] > 0 {
		return false
	}
	w.reach(0)
	w.lead(api.OpLoop, to, 0)
	return true
}

// join: places are filled in; handlers catch what is thrown in some parts.
func (w *wanderer) join() {
	for at, to := range w.leads {
		w.f.Code[at].A = w.at[to]
	}
	for at, deep := range w.deeps {
		if deep != 1 || at == 0 {
			continue
		}
		to := 1 + w.dice.Below(at)
		from := w.dice.Below(to)
		if w.at[from] < w.at[to] {
			w.f.Handlers = append(w.f.Handlers, api.Handler{From: w.at[from], To: w.at[to], At: w.at[at]})
		}
	}
}
