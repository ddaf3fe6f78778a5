package machine

import "gearbox/api"

// frame is a function that is being done.
type frame struct {
	code  *api.Fn
	fn    api.Val // the Func by which it was called; the main one's: nil
	place int
	slots []api.Val // its locals, then its stack
}

// frameOf: a function begins; its first locals are what it is handed.
func frameOf(code *api.Fn, fn api.Val, args []api.Val) *frame {
	f := &frame{code: code, fn: fn, slots: make([]api.Val, code.Locals)}
	copy(f.slots, args)
	return f
}

// holds goes to all values that the frame holds; false as soon as yield says so.
func (f *frame) holds(yield func(*api.Val) bool) bool {
	for i := range f.slots {
		if !yield(&f.slots[i]) {
			return false
		}
	}
	return yield(&f.fn)
}

// last: the last values of the stack, in their order.
func (f *frame) last(n int) []api.Val { return f.slots[len(f.slots)-n:] }

func (f *frame) take(n int) { f.slots = f.slots[:len(f.slots)-n] }

func (f *frame) push(v api.Val) { f.slots = append(f.slots, v) }

// next: an instruction is done that took so many values.
func (f *frame) next(took int) {
	f.take(took)
	f.place++
}

// catch: what is thrown is handled. A call has taken its values where one of the frames behind throws, and the handler may want to keep some of these: nil stands for them.
func (f *frame) catch(h api.Handler, v api.Val) {
	deep := f.code.Locals + h.Deep
	for len(f.slots) < deep {
		f.push(api.Val{})
	}
	f.slots = append(f.slots[:deep], v)
	f.place = h.At
}
