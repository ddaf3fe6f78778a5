package machine

import "gearbox/api"

// Stack is a frame of the first gear, which takes code as it is.
type Stack struct {
	code  *api.Fn
	by    api.Val // the Func by which it was called; the main one's: nil
	place int
	slots []api.Val // its locals, then its stack
}

// StackAt: a frame at a place of a function's code, with slots that are its own from then on.
func StackAt(code *api.Fn, by api.Val, place int, slots []api.Val) *Stack {
	return &Stack{code: code, by: by, place: place, slots: slots}
}

// StackOf: a function begins; its first locals are what it is handed.
func StackOf(code *api.Fn, by api.Val, args []api.Val) *Stack {
	slots := make([]api.Val, code.Locals)
	copy(slots, args)
	return StackAt(code, by, 0, slots)
}

// Step: the next instruction is done.
func (f *Stack) Step(m *Machine) {
	i := f.code.Code[f.place]
	m.deeds[i.Op](m, f, i.A)
}

// Roots: all that it holds.
func (f *Stack) Roots(yield func(v *api.Val) bool) {
	for i := range f.slots {
		if !yield(&f.slots[i]) {
			return
		}
	}
	yield(&f.by)
}

// Beside: nothing.
func (f *Stack) Beside(func(v *api.Val) bool) {}

// Gets: a call's value is pushed.
func (f *Stack) Gets(v api.Val) {
	f.push(v)
	f.place++
}

// last: the last values of the stack, in their order.
func (f *Stack) last(n int) []api.Val { return f.slots[len(f.slots)-n:] }

func (f *Stack) take(n int) { f.slots = f.slots[:len(f.slots)-n] }

func (f *Stack) push(v api.Val) { f.slots = append(f.slots, v) }

// next: an instruction is done that took so many values.
func (f *Stack) next(took int) {
	f.take(took)
	f.place++
}

// catch: what is thrown is handled. A call has taken its values where one of the frames behind throws, and the handler may want to keep some of these: nil stands for them.
func (f *Stack) catch(h api.Handler, v api.Val) {
	deep := f.code.Locals + h.Deep
	for len(f.slots) < deep {
		f.push(api.Val{})
	}
	f.slots = append(f.slots[:deep], v)
	f.place = h.At
}
