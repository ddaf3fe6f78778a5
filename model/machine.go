package model

import (
	"gearbox/api"
	"gearbox/plain"
)

// machine is a run. An instruction takes its values from the stack when nothing can end the run or be thrown any more: till then they are roots.
type machine struct {
	program api.Program
	deeds   deeds
	signs   plain.Signs
	space   *plain.Space
	frames  []*frame
	fuel    int
	out     []string
	end     api.EndKind
	thrown  api.Val // EndThrown
}

func begin(p api.Program, room, fuel int) *machine {
	m := &machine{program: p, deeds: newDeeds(), signs: plain.NewSigns(), fuel: fuel}
	m.space = plain.NewSpace(room, m.roots)
	m.frames = []*frame{frameOf(&p[0], api.Val{}, nil)}
	return m
}

// roots: all values that the run holds: those of its frames, or what was thrown, when they are gone.
func (m *machine) roots(yield func(api.Val) bool) {
	for _, f := range m.frames {
		if !yield(f.fn) {
			return
		}
		for _, v := range f.slots {
			if !yield(v) {
				return
			}
		}
	}
	yield(m.thrown)
}

func (m *machine) outcome() api.Outcome {
	o := api.Outcome{End: m.end, Out: m.out, Fuel: m.fuel, Words: m.space.Reached()}
	if m.end == api.EndThrown {
		o.Value = m.text(m.thrown)
	}
	return o
}

// text: of a value that is no cell; where it is too long, what would be thrown for it.
func (m *machine) text(v api.Val) string {
	t, thrown := plain.Told(m.space.Objects(), v)
	if thrown != "" {
		return thrown
	}
	return t
}

// top: the last frame.
func (m *machine) top() *frame { return m.frames[len(m.frames)-1] }

// leave: the last frame goes.
func (m *machine) leave() { m.frames = m.frames[:len(m.frames)-1] }

// step: the next instruction is done.
func (m *machine) step() {
	f := m.top()
	i := f.code.Code[f.place]
	m.deeds[i.Op](m, f, i.A)
}

// point: is there fuel for a call, for a loop's turn? It is taken then; else the run ends.
func (m *machine) point() bool {
	if m.fuel == 0 {
		m.end = api.EndFuel
		return false
	}
	m.fuel--
	return true
}

// did: what an operation comes to; false: it threw, or there was no room for it.
func (m *machine) did(d plain.Deed) (api.Val, bool) {
	if d.Thrown != "" {
		m.throwText(d.Thrown)
		return api.Val{}, false
	}
	v, ok := m.space.Do(d)
	if !ok {
		m.end = api.EndRoom
	}
	return v, ok
}

// throwText: a new Text is thrown.
func (m *machine) throwText(t string) {
	if v, ok := m.did(plain.Text(t)); ok {
		m.throw(v)
	}
}

// throw: a value is thrown in the last frame, and in those ahead of it, until one catches it.
func (m *machine) throw(v api.Val) {
up:
	for ; len(m.frames) > 0; m.leave() {
		f := m.top()
		for _, h := range f.code.Handlers {
			if h.From <= f.place && f.place < h.To {
				f.catch(h, v)
				break up
			}
		}
	}
	if len(m.frames) == 0 {
		m.end, m.thrown = api.EndThrown, v
	}
}
