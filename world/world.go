// Package world runs programs as the chapters tell it, word for word: one store that only grows, operations of prim on all of it, words counted anew whenever they are asked for. The machines are held against it. It is no layer, and for tests alone.
package world

import (
	"slices"
	"strconv"

	"gearbox/api"
	"gearbox/prim"
	"gearbox/show"
	"gearbox/trials"
)

// Met is how often something came to be.
type Met map[string]int

// World is a run.
type World struct {
	Program    api.Program
	Codes      map[int]api.RegFn // code of registers of some of its functions
	Graphs     []api.Graph       // graphs of some others
	Turns      []api.Graph       // graphs in which a frame that has no other gear goes on, where it loops to their place
	Room, Fuel int
	Met        Met

	store     api.Store
	frames    []*frame
	out       api.Outcome
	words     []string // what instructions are called
	regWords  []string
	nodeWords []string
	endWords  []string
}

// frame is one of any gear.
type frame struct {
	fn     int
	closed api.Val
	place  int
	locals []api.Val
	stack  []api.Val

	code  *api.RegFn // nil: it has none
	regs  []api.Val
	taken int // how many values the call took for which it waits

	tour *tour // nil: it has none
}

// Tells: what the run comes to.
func (w *World) Tells() api.Outcome {
	w.words, w.regWords, w.nodeWords, w.endWords = trials.Words(), trials.RegWords(), trials.NodeWords(), trials.EndWords()
	w.begin(0, api.Val{}, nil)
	for w.out.End == api.EndNone {
		switch f := w.top(); {
		case f.tour != nil:
			w.graphNode(f)
		case f.code != nil:
			w.regIns(f)
		default:
			w.instruction(f)
		}
	}
	w.out.Fuel = w.Fuel
	w.met("end " + strconv.Itoa(int(w.out.End)))
	return w.out
}

func (w *World) met(what string) {
	if w.Met != nil {
		w.Met[what]++
	}
}

func (w *World) top() *frame { return w.frames[len(w.frames)-1] }

func (w *World) leave() { w.frames = w.frames[:len(w.frames)-1] }

// slots: of a frame at its place.
func (f *frame) slots() []api.Val {
	if f.tour != nil {
		l := f.tour.slots()
		return l[:len(l)-f.taken]
	}
	if f.code == nil {
		return slices.Concat(f.locals, f.stack)
	}
	var l []api.Val
	for _, loc := range f.code.Exits[f.code.Code[f.place].Exit].Slots {
		if loc.Reg < 0 {
			l = append(l, api.Val{Kind: loc.Kind, N: loc.N})
		} else {
			l = append(l, f.regs[loc.Reg])
		}
	}
	return l[:len(l)-f.taken]
}

func (w *World) roots() []api.Val {
	var l []api.Val
	for _, f := range w.frames {
		l = append(append(l, f.closed), f.slots()...)
	}
	return l
}

func (w *World) ends(end api.EndKind) {
	w.out.End = end
	w.out.Words = show.Words(w.store, w.roots())
}

// asks: is there room for so many words more?
func (w *World) asks(words int) bool {
	if words > 0 && show.Words(w.store, w.roots())+words > w.Room {
		w.met("no room " + w.name(w.top()))
		w.ends(api.EndRoom)
		return false
	}
	return true
}

// name: what the instruction at a frame's place is called.
func (w *World) name(f *frame) string {
	if f.tour != nil {
		if n, ok := f.tour.node(); ok {
			return w.nodeWords[f.tour.graph.Nodes[n].Op]
		}
		return w.endWords[f.tour.graph.Blocks[f.tour.block].End]
	}
	if f.code != nil {
		return w.regWords[f.code.Code[f.place].Op]
	}
	return w.words[w.Program[f.fn].Code[f.place].Op]
}

func (w *World) throwText(s string) {
	if d := prim.Text(w.store, s); w.asks(d.Words) {
		w.store = d.Store
		w.met("thrown " + s)
		w.throw(d.Val)
	}
}

func (w *World) throw(v api.Val) {
	for up := 0; len(w.frames) > 0; up++ {
		f := w.top()
		if f.code != nil || f.tour != nil {
			w.met("waiting falls")
			w.fall(f)
		}
		for _, h := range w.Program[f.fn].Handlers {
			if f.place >= h.From && f.place < h.To {
				kept := append(slices.Clone(f.stack), make([]api.Val, api.MaxStack)...)[:h.Deep]
				w.caught(up, h.Deep, len(f.stack))
				f.stack, f.place = append(kept, v), h.At
				return
			}
		}
		w.leave()
	}
	w.out.End, w.out.Words = api.EndThrown, show.Words(w.store, []api.Val{v})
	s, ok := show.Text(w.store, v)
	if !ok {
		s = "great"
	}
	w.out.Value = s
}

func (w *World) caught(up, keeps, deep int) {
	where := []string{"here", "ahead", "far ahead"}[min(2, up)]
	w.met("caught " + where)
	if keeps > 0 {
		w.met("kept " + where)
	}
	if keeps > deep {
		w.met("kept what was taken")
	}
}

func (w *World) point() bool {
	if w.Fuel == 0 {
		w.ends(api.EndFuel)
		return false
	}
	w.Fuel--
	return true
}

// refuses: what is thrown where a value is called with so many others; "": it is a call that may be.
func (w *World) refuses(v api.Val, n int) string {
	switch {
	case v.Kind != api.Func:
		return "kind"
	case w.Program[w.store[v.N-1].Fn].Params != n:
		return "args"
	case len(w.frames) == api.MaxFrames:
		return "deep"
	}
	return ""
}

// begin: a frame of a function, with its first locals.
func (w *World) begin(fn int, closed api.Val, args []api.Val) {
	f := &frame{fn: fn, closed: closed, locals: slices.Clone(args)}
	for len(f.locals) < w.Program[fn].Locals {
		f.locals = append(f.locals, api.Val{})
	}
	w.frames = append(w.frames, f)
	for _, g := range w.Graphs {
		if g.Fn == fn {
			w.met("begins as a graph")
			f.enter(&g)
		}
	}
	c, ok := w.Codes[fn]
	if !ok {
		return
	}
	for _, e := range c.Entries {
		if e.Pc == 0 {
			w.met("begins in registers")
			f.code, f.place, f.regs = &c, e.At, make([]api.Val, c.Regs)
			for i, r := range e.Slots {
				f.regs[r] = f.locals[i]
			}
		}
	}
}

// back: a frame goes, with a value.
func (w *World) back(v api.Val) {
	w.leave()
	if len(w.frames) == 0 {
		w.ends(api.EndDone)
		return
	}
	f := w.top()
	switch {
	case f.tour != nil:
		f.tour.next(v)
		f.taken = 0
	case f.code != nil:
		f.regs[f.code.Code[f.place].To], f.taken = v, 0
	default:
		f.stack = append(f.stack, v)
	}
	f.place++
}

// prints: a value's text is told.
func (w *World) prints(v api.Val) {
	s, _ := show.Text(w.store, v)
	w.out.Out = append(w.out.Out, s)
}
