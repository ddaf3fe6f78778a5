package machine

import "gearbox/api"

// Frame is a function that is being done, in whatever gear. The last one of a run goes on, the others wait for calls.
type Frame interface {
	// Step: the next instruction is done.
	Step(m *Machine)
	// Roots goes to its values that are roots, to some of them more than once.
	Roots(yield func(v *api.Val) bool)
	// Beside goes to the other objects that it holds; roots may be among them.
	Beside(yield func(v *api.Val) bool)
	// Gets: what the call that it waits for comes to; it goes on behind that.
	Gets(v api.Val)
}

// Geared is a frame of another gear than the first one.
type Geared interface {
	Frame
	// Fallen: what it is in the first gear, at the instruction at which it falls, or waits.
	Fallen() *Stack
}

// Fall: the last frame is one of the first gear from now on.
func (m *Machine) Fall() { m.fallen() }

// fallen: the last frame, which falls if it is of another gear than the first one.
func (m *Machine) fallen() *Stack {
	var s *Stack
	switch f := m.top().(type) {
	case *Stack:
		s = f
	case Geared:
		s = f.Fallen()
		m.frames[len(m.frames)-1] = s
	}
	return s
}
