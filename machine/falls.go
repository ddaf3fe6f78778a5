package machine

import "gearbox/api"

// What frames of other gears do, which fall where the first gear would throw.

// DoOrFall: what an operation of the last frame comes to; false, if that fell, or the run has ended.
func (m *Machine) DoOrFall(operation func() Did) (api.Val, bool) {
	d, ok := m.Did(operation)
	if ok && d.Thrown != "" {
		m.Fall()
		return api.Val{}, false
	}
	return d.Val, ok
}

// CallOrFall: the function that the last frame calls by a value with so many arguments; false, if the frame fell, or the run has ended. It falls without fuel being taken; but the call is a point behind which values may have other places.
func (m *Machine) CallOrFall(v api.Val, args int) (fn int, ok bool) {
	fn, thrown := m.Called(v, args)
	if thrown != "" {
		m.Fall()
		return 0, false
	}
	return fn, m.Point()
}

// TestOrFall: does a Bool hold? false for ok, if the last frame fell.
func (m *Machine) TestOrFall(v api.Val) (holds, ok bool) {
	if v.Kind != api.Bool {
		m.Fall()
		return false, false
	}
	return v.N != 0, true
}

// PrintOrFall: a value's text is told; false, if the last frame fell.
func (m *Machine) PrintOrFall(v api.Val) bool {
	t, thrown := m.ground.Told(v)
	if thrown != "" {
		m.Fall()
		return false
	}
	m.Print(t)
	return true
}
