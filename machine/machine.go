// Package machine takes code as it is, on whatever ground its values stand: for the layers that run code in plain values, and for those that run it over a heap. It is no layer.
package machine

import (
	"gearbox/api"
	"gearbox/verify"
)

// Machine is a run. An instruction takes its values from the stack when nothing can end the run or be thrown any more: till then they are roots.
type Machine struct {
	program api.Program
	ground  Ground
	deeds   deeds
	frames  []*frame
	fuel    int
	atPoint func()
	out     []string
	end     api.EndKind
	thrown  api.Val // EndThrown
}

// Check: may there be a run of that program, with so much room and fuel? The errors are those of chapter 12.
func Check(p api.Program, room, fuel int) api.Errno {
	if room < 1 || room > api.MaxWords || fuel < 0 || fuel > api.MaxFuel {
		return api.ErrArg
	}
	_, _, e := verify.Check(p)
	return e
}

// New: a run that there may be, at its beginning, on a ground without objects.
func New(p api.Program, g Ground, fuel int) *Machine {
	return &Machine{
		program: p,
		ground:  g,
		deeds:   newDeeds(),
		frames:  []*frame{frameOf(&p[0], api.Val{}, nil)},
		fuel:    fuel,
		atPoint: func() {},
	}
}

// AtPoint: what is done at each point, when its fuel is taken, ahead of what the point does.
func (m *Machine) AtPoint(do func()) { m.atPoint = do }

// Run: all that is still to be done.
func (m *Machine) Run() api.Outcome {
	for m.end == api.EndNone {
		m.step()
	}
	o := api.Outcome{End: m.end, Out: m.out, Fuel: m.fuel, Words: m.ground.Reached(m.roots())}
	if m.end == api.EndThrown {
		o.Value = m.text(m.thrown)
	}
	return o
}

// Collect: the ground has just what the run can reach.
func (m *Machine) Collect() {
	moved := m.ground.Collect(m.roots())
	for v := range m.holds {
		*v, moved = moved[0], moved[1:]
	}
}

// holds goes to all values that the run holds: those of its frames, or what was thrown, when they are gone.
func (m *Machine) holds(yield func(*api.Val) bool) {
	for _, f := range m.frames {
		if !f.holds(yield) {
			return
		}
	}
	yield(&m.thrown)
}

func (m *Machine) roots() []api.Val {
	var l []api.Val
	for v := range m.holds {
		l = append(l, *v)
	}
	return l
}

// text: of a value that is no cell; where it is too long, what would be thrown for it.
func (m *Machine) text(v api.Val) string {
	t, thrown := m.ground.Told(v)
	if thrown != "" {
		return thrown
	}
	return t
}

// top: the last frame.
func (m *Machine) top() *frame { return m.frames[len(m.frames)-1] }

// leave: the last frame goes.
func (m *Machine) leave() { m.frames = m.frames[:len(m.frames)-1] }

// step: the next instruction is done.
func (m *Machine) step() {
	f := m.top()
	i := f.code.Code[f.place]
	m.deeds[i.Op](m, f, i.A)
}

// point: is there fuel for a call, for a loop's turn? It is taken then; else the run ends.
func (m *Machine) point() bool {
	if m.fuel == 0 {
		m.end = api.EndFuel
		return false
	}
	m.fuel--
	m.atPoint()
	return true
}

// did: what an operation comes to; false: it threw, or there was no room for it. It has to read its values whenever it is done, since they are moved where there is no room at first.
func (m *Machine) did(operation func() Did) (api.Val, bool) {
	d := operation()
	if d.Full {
		m.Collect()
		d = operation()
	}
	switch {
	case d.Full:
		m.end = api.EndRoom
	case d.Thrown != "":
		m.throwText(d.Thrown)
	default:
		return d.Val, true
	}
	return api.Val{}, false
}

// throwText: a new Text is thrown.
func (m *Machine) throwText(t string) {
	if v, ok := m.did(func() Did { return m.ground.Text(t) }); ok {
		m.throw(v)
	}
}

// throw: a value is thrown in the last frame, and in those ahead of it, until one catches it.
func (m *Machine) throw(v api.Val) {
up:
	for ; len(m.frames) > 0; m.leave() {
		f := m.top()
		for _, h := range f.code.Handlers {
			if h.From <= f.place && f.place < h.To {
				f.catch(h, v)
				break up
			}
		}
	}
	if len(m.frames) == 0 {
		m.end, m.thrown = api.EndThrown, v
	}
}
