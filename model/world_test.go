package model_test

import (
	"slices"
	"strconv"
	"testing"

	"gearbox/api"
	"gearbox/gen"
	"gearbox/model"
	"gearbox/prim"
	"gearbox/samples"
	"gearbox/show"
)

// world is a run as the chapter tells it, word for word: one store that only grows, operations of prim on all of it, words counted anew whenever they are asked for.
type world struct {
	p          api.Program
	store      api.Store
	levels     []level
	room, fuel int
	out        api.Outcome
	met        met
}

// met is how often something came to be.
type met map[string]int

// level is a frame.
type level struct {
	fn     int
	closed api.Val
	place  int
	locals []api.Val
	stack  []api.Val
}

// tells: what a run comes to.
func tells(p api.Program, room, fuel int, m met) api.Outcome {
	w := &world{p: p, room: room, fuel: fuel, met: m, levels: []level{{locals: make([]api.Val, p[0].Locals)}}}
	for w.out.End == api.EndNone {
		w.instruction()
	}
	w.out.Fuel = w.fuel
	w.met["end "+strconv.Itoa(int(w.out.End))]++
	return w.out
}

func (w *world) roots() []api.Val {
	var l []api.Val
	for _, f := range w.levels {
		l = append(append(append(l, f.closed), f.locals...), f.stack...)
	}
	return l
}

func (w *world) ends(end api.EndKind) {
	w.out.End = end
	w.out.Words = show.Words(w.store, w.roots())
}

// room is asked for.
func (w *world) asks(words int) bool {
	if words > 0 && show.Words(w.store, w.roots())+words > w.room {
		f := w.levels[len(w.levels)-1]
		w.met["no room "+word(w.p[f.fn].Code[f.place].Op)]++
		w.ends(api.EndRoom)
		return false
	}
	return true
}

func (w *world) throwText(s string) {
	if d := prim.Text(w.store, s); w.asks(d.Words) {
		w.store = d.Store
		w.met["thrown "+s]++
		w.throw(d.Val)
	}
}

func (w *world) throw(v api.Val) {
	for up := 0; len(w.levels) > 0; up++ {
		f := &w.levels[len(w.levels)-1]
		for _, h := range w.p[f.fn].Handlers {
			if f.place >= h.From && f.place < h.To {
				kept := append(slices.Clone(f.stack), make([]api.Val, 300)...)[:h.Deep]
				w.caught(up, h.Deep, len(f.stack))
				f.stack, f.place = append(kept, v), h.At
				return
			}
		}
		w.levels = w.levels[:len(w.levels)-1]
	}
	w.out.End, w.out.Words = api.EndThrown, show.Words(w.store, []api.Val{v})
	s, ok := show.Text(w.store, v)
	if !ok {
		s = "great"
	}
	w.out.Value = s
}

func (w *world) caught(up, keeps, deep int) {
	where := []string{"here", "ahead", "far ahead"}[min(2, up)]
	w.met["caught "+where]++
	if keeps > 0 {
		w.met["kept "+where]++
	}
	if keeps > deep {
		w.met["kept what was taken"]++
	}
}

// instruction: the one at the place of the last frame.
func (w *world) instruction() {
	f := &w.levels[len(w.levels)-1]
	i := w.p[f.fn].Code[f.place]
	w.met[word(i.Op)]++
	switch i.Op {
	case api.OpJump:
		f.place = i.A
	case api.OpUnless:
		switch f.stack[len(f.stack)-1] {
		case api.Val{Kind: api.Bool}:
			f.stack, f.place = f.stack[:len(f.stack)-1], i.A
		case api.Val{Kind: api.Bool, N: 1}:
			f.stack, f.place = f.stack[:len(f.stack)-1], f.place+1
		default:
			w.throwText("kind")
		}
	case api.OpLoop:
		if w.point() {
			f.place = i.A
		}
	case api.OpCall:
		w.call(f, i.A)
	case api.OpReturn:
		w.back(f)
	case api.OpThrow:
		if v := f.stack[len(f.stack)-1]; v.Kind == api.Cell {
			w.throwText("kind")
		} else {
			w.throw(v)
		}
	default:
		w.deed(f, i)
	}
}

func (w *world) point() bool {
	if w.fuel == 0 {
		w.ends(api.EndFuel)
		return false
	}
	w.fuel--
	return true
}

func (w *world) call(f *level, n int) {
	if !w.point() {
		return
	}
	l := f.stack[len(f.stack)-n-1:]
	switch {
	case l[0].Kind != api.Func:
		w.throwText("kind")
	case w.p[w.store[l[0].N-1].Fn].Params != n:
		w.throwText("args")
	case len(w.levels) == api.MaxFrames:
		w.throwText("deep")
	default:
		called := w.store[l[0].N-1].Fn
		g := level{fn: called, closed: l[0], locals: slices.Clone(l[1:])}
		for len(g.locals) < w.p[called].Locals {
			g.locals = append(g.locals, api.Val{})
		}
		f.stack = slices.Clone(f.stack[:len(f.stack)-n-1])
		w.levels = append(w.levels, g)
	}
}

func (w *world) back(f *level) {
	v := f.stack[len(f.stack)-1]
	w.levels = w.levels[:len(w.levels)-1]
	if len(w.levels) == 0 {
		w.ends(api.EndDone)
		return
	}
	f = &w.levels[len(w.levels)-1]
	f.stack, f.place = append(f.stack, v), f.place+1
}

// value: nothing is made.
func (w *world) value(v api.Val) prim.Did { return prim.Did{Store: w.store, Val: v} }

// holds: a cell has another value then.
func (w *world) holds(c, v api.Val) prim.Did {
	if c.Kind != api.Cell || v.Kind == api.Cell {
		return prim.Did{Thrown: "kind"}
	}
	s := slices.Clone(w.store)
	s[c.N-1].L = []api.Val{v}
	return prim.Did{Store: s}
}

func (w *world) held(c api.Val) prim.Did {
	if c.Kind != api.Cell {
		return prim.Did{Thrown: "kind"}
	}
	return w.value(w.store[c.N-1].L[0])
}

// deed: an instruction that takes values, does something, pushes or not, and goes on.
func (w *world) deed(f *level, i api.Ins) {
	takes := map[api.Op]int{api.OpStore: 1, api.OpCellStore: 1, api.OpUpStore: 1, api.OpPop: 1, api.OpPrint: 1, api.OpBin: 2, api.OpNot: 1, api.OpNeg: 1, api.OpLen: 1, api.OpShow: 1, api.OpList: i.A, api.OpMap: 2 * i.A, api.OpGet: 2, api.OpPut: 3}[i.Op]
	l := slices.Clone(f.stack[len(f.stack)-takes:])
	d := w.operation(f, i, l)
	if d.Thrown != "" {
		w.throwText(d.Thrown)
		return
	}
	if !w.asks(d.Words) {
		return
	}
	w.store = d.Store
	f.stack = slices.Clone(f.stack[:len(f.stack)-takes])
	f.place++
	switch i.Op {
	case api.OpStore:
		f.locals[i.A] = l[0]
	case api.OpCell:
		f.locals[i.A] = d.Val
	case api.OpPrint:
		s, _ := show.Text(w.store, l[0])
		w.out.Out = append(w.out.Out, s)
	case api.OpCellStore, api.OpUpStore, api.OpPop, api.OpPut:
	default:
		f.stack = append(f.stack, d.Val)
	}
}

func (w *world) operation(f *level, i api.Ins, l []api.Val) prim.Did {
	s := w.store
	switch i.Op {
	case api.OpConst:
		c := w.p[f.fn].Consts[i.A]
		if c.Kind == api.Text {
			return prim.Text(s, c.S)
		}
		return w.value(api.Val{Kind: api.Int, N: c.N})
	case api.OpYes:
		return w.value(api.Val{Kind: api.Bool, N: 1})
	case api.OpNo:
		return w.value(api.Val{Kind: api.Bool})
	case api.OpLoad:
		return w.value(f.locals[i.A])
	case api.OpDup:
		return w.value(f.stack[len(f.stack)-1])
	case api.OpCell:
		return prim.Cell(s, f.locals[i.A])
	case api.OpCellLoad:
		return w.held(f.locals[i.A])
	case api.OpCellStore:
		return w.holds(f.locals[i.A], l[0])
	case api.OpUp:
		return w.held(s[f.closed.N-1].L[i.A])
	case api.OpUpStore:
		return w.holds(s[f.closed.N-1].L[i.A], l[0])
	case api.OpFn:
		return w.closure(f, i.A)
	}
	return w.onValues(i, l)
}

func (w *world) closure(f *level, n int) prim.Did {
	var cells []api.Val
	for _, c := range w.p[n].Caps {
		if c.Up {
			cells = append(cells, w.store[f.closed.N-1].L[c.N])
		} else {
			cells = append(cells, f.locals[c.N])
		}
	}
	return prim.Fn(w.store, n, cells)
}

func (w *world) onValues(i api.Ins, l []api.Val) prim.Did {
	s := w.store
	switch i.Op {
	case api.OpBin:
		return prim.Bin(s, api.Bin(i.A), l[0], l[1])
	case api.OpNot:
		return prim.Not(s, l[0])
	case api.OpNeg:
		return prim.Neg(s, l[0])
	case api.OpLen:
		return prim.Len(s, l[0])
	case api.OpShow:
		return prim.Show(s, l[0])
	case api.OpList:
		return prim.List(s, l)
	case api.OpMap:
		return prim.Map(s, l)
	case api.OpGet:
		return prim.Get(s, l[0], l[1])
	case api.OpPut:
		return prim.Put(s, l[0], l[1], l[2])
	case api.OpPrint:
		if d := prim.Show(s, l[0]); d.Thrown != "" {
			return d
		}
	}
	return w.value(api.Val{})
}

// alike: a run is what the chapter tells.
func alike(t *testing.T, p api.Program, room, fuel int, m met) {
	t.Helper()
	o, e := model.Run(p, room, fuel)
	if w := tells(p, room, fuel, m); e != api.OK || !same(o, w) {
		t.Fatalf("%s, room %d, fuel %d:\n%v, %d, want\n%v", brief(p), room, fuel, o, e, w)
	}
}

// rooms: any, and the least one with which the run does not end for want of it, and one less.
func rooms(d *samples.Dice, p api.Program, fuel int) []int {
	least := 1
	for most := 4000; least < most; {
		middle := (least + most) / 2
		if o, _ := model.Run(p, middle, fuel); o.End == api.EndRoom {
			least = middle + 1
		} else {
			most = middle
		}
	}
	return []int{1 + d.Below(20), 1 + d.Below(200), api.MaxWords, least, max(1, least-1)}
}

// enough: was each of these met?
func (m met) enough(t *testing.T, least int, what ...string) {
	t.Helper()
	for _, s := range what {
		if m[s] < least {
			t.Errorf("%s: %d", s, m[s])
		}
	}
}

// P12.1: code of every form, against what the chapter tells.
func TestCodeAlike(t *testing.T) {
	t.Parallel()
	m := met{}
	for seed := range 6000 {
		p, d := samples.Code(seed), samples.Dice(seed)
		fuel := d.Below(30)
		if seed%20 == 0 {
			fuel = 400
		}
		for _, room := range rooms(&d, p, fuel) {
			alike(t, p, room, fuel, m)
		}
	}
	for _, s := range words[1:] {
		m.enough(t, 500, s)
	}
	m.enough(t, 500, "end 1", "end 2", "end 3", "end 4", "caught here", "caught ahead", "kept here", "thrown kind", "thrown args", "thrown zero", "thrown bounds")
	m.enough(t, 50, "caught far ahead", "kept ahead", "kept what was taken")
}

// P12.1: code of texts, likewise.
func TestTextsAlike(t *testing.T) {
	t.Parallel()
	m := met{}
	for seed := range 4000 {
		p, _, e := gen.Of(samples.Text(seed))
		if e != api.OK {
			continue
		}
		d := samples.Dice(seed)
		fuel := d.Below(30)
		for _, room := range rooms(&d, p, fuel) {
			alike(t, p, room, fuel, m)
		}
	}
	m.enough(t, 50, "end 1", "end 2", "end 3", "end 4", "Cell", "CellLoad", "Call", "Loop", "Put", "caught here")
}
