// Package machine runs programs, on whatever ground their values stand: for the layers that run code in plain values, and for those that run it over a heap. It takes code as it is; frames of other gears may be in a run beside. It is no layer.
package machine

import (
	"iter"

	"gearbox/api"
	"gearbox/verify"
)

// Machine is a run. An instruction takes its values from the stack when nothing can end the run or be thrown any more: till then they are roots.
type Machine struct {
	program api.Program
	ground  Ground
	deeds   deeds
	frames  []Frame
	fuel    int
	atPoint func()
	begins  func(fn int, by api.Val, args []api.Val) Frame
	out     []string
	end     api.EndKind
	thrown  api.Val // EndThrown
}

// Check: may there be a run of that program, with so much room and fuel? The errors are those of chapter 12.
func Check(p api.Program, room, fuel int) api.Errno {
	if room < 1 || room > api.MaxWords || fuel < 0 || fuel > api.MaxFuel {
		return api.ErrArg
	}
	_, _, e := verify.Check(p)
	return e
}

// New: a run that there may be, on a ground without objects.
func New(p api.Program, g Ground, fuel int) *Machine {
	return &Machine{
		program: p,
		ground:  g,
		deeds:   newDeeds(),
		fuel:    fuel,
		atPoint: func() {},
		begins: func(fn int, by api.Val, args []api.Val) Frame {
			return StackOf(&p[fn], by, args)
		},
	}
}

// AtPoint: what is done at each point, when its fuel is taken, ahead of what the point does.
func (m *Machine) AtPoint(do func()) { m.atPoint = do }

// Begins: what frame a function begins with that is called by a Func, and handed its first locals. (If nobody says otherwise, all begin in the first gear.)
func (m *Machine) Begins(begins func(fn int, by api.Val, args []api.Val) Frame) { m.begins = begins }

// Ground: what its values stand on.
func (m *Machine) Ground() Ground { return m.ground }

// Run: from its beginning to its end.
func (m *Machine) Run() api.Outcome {
	m.Begin(0, api.Val{}, nil)
	for m.end == api.EndNone {
		m.top().Step(m)
	}
	o := api.Outcome{End: m.end, Out: m.out, Fuel: m.fuel, Words: m.ground.Reached(values(m.roots))}
	if m.end == api.EndThrown {
		o.Value = m.text(m.thrown)
	}
	return o
}

// Collect: the ground has just what the run can reach, and what it holds beside.
func (m *Machine) Collect() {
	roots, others := m.ground.Collect(values(m.roots), values(m.beside))
	put(m.roots, roots)
	put(m.beside, others)
}

// roots goes to those of its frames, and to what was thrown, when they are gone.
func (m *Machine) roots(yield func(v *api.Val) bool) {
	for _, f := range m.frames {
		for v := range f.Roots {
			if !yield(v) {
				return
			}
		}
	}
	yield(&m.thrown)
}

// beside goes to what else its frames hold.
func (m *Machine) beside(yield func(v *api.Val) bool) {
	for _, f := range m.frames {
		for v := range f.Beside {
			if !yield(v) {
				return
			}
		}
	}
}

// values: as they are.
func values(held iter.Seq[*api.Val]) []api.Val {
	var l []api.Val
	for v := range held {
		l = append(l, *v)
	}
	return l
}

// put: they are these from now on.
func put(held iter.Seq[*api.Val], l []api.Val) {
	for v := range held {
		*v, l = l[0], l[1:]
	}
}

// text: of a value that is no cell; where it is too long, what would be thrown for it.
func (m *Machine) text(v api.Val) string {
	t, thrown := m.ground.Told(v)
	if thrown != "" {
		return thrown
	}
	return t
}

// top: the last frame.
func (m *Machine) top() Frame { return m.frames[len(m.frames)-1] }

// leave: the last frame goes.
func (m *Machine) leave() { m.frames = m.frames[:len(m.frames)-1] }

// Point: is there fuel for a call, for a loop's turn? It is taken then; else the run ends.
func (m *Machine) Point() bool {
	if m.fuel == 0 {
		m.end = api.EndFuel
		return false
	}
	m.fuel--
	m.atPoint()
	return true
}

// Did: what an operation comes to; false: there was no room for it, and the run ends. It has to read its values whenever it is done, since they are moved where there is no room at first.
func (m *Machine) Did(operation func() Did) (Did, bool) {
	d := operation()
	if d.Full {
		if m.ground.Crammed() {
			m.Collect()
		}
		m.ground.Again(func() []api.Val { return values(m.roots) })
		d = operation()
	}
	if d.Full {
		m.end = api.EndRoom
	}
	return d, !d.Full
}

// did: likewise; false, too, if it threw.
func (m *Machine) did(operation func() Did) (api.Val, bool) {
	d, ok := m.Did(operation)
	if ok && d.Thrown != "" {
		m.throwText(d.Thrown)
		return api.Val{}, false
	}
	return d.Val, ok
}

// throwText: a new Text is thrown.
func (m *Machine) throwText(t string) {
	if v, ok := m.did(func() Did { return m.ground.Text(t) }); ok {
		m.throw(v)
	}
}

// throw: a value is thrown in the last frame, and in those ahead of it, until one catches it.
func (m *Machine) throw(v api.Val) {
up:
	for ; len(m.frames) > 0; m.leave() {
		f := m.fallen()
		for _, h := range f.code.Handlers {
			if h.From <= f.place && f.place < h.To {
				f.catch(h, v)
				break up
			}
		}
	}
	if len(m.frames) == 0 {
		m.end, m.thrown = api.EndThrown, v
	}
}
