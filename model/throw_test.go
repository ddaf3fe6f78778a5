package model_test

import (
	"strings"
	"testing"

	"gearbox/api"
)

// P12.1: a value of every kind is thrown as it is, but a cell.
func TestThrow(t *testing.T) {
	for _, z := range zoo[:8] {
		wantPushed(t, z.code+" Throw", z.text)
		p := tried("Nil", "Pop "+z.code+" Throw")
		wantThrown(t, p, z.text, "")
	}
	wantThrown(t, tried("Nil", "Pop Load 0 Throw"), "kind", "")
	// it is the same object
	wantOut(t, api.Program{fn("List Dup Store Throw Load Bin 8 Print Nil Return", locals(1), handlers(3, 4, 4, 0))}, "yes")
	text := strings.Repeat("x", api.MaxText)
	want(t, api.Program{fn("Const List 1 Throw", consts(text))}, 600, 0, api.Outcome{End: api.EndThrown, Value: "great", Words: 2 + 512 + 6})
	want(t, api.Program{fn("Const Throw", consts(text))}, 600, 0, api.Outcome{End: api.EndThrown, Value: text, Words: 2 + 512})
}

// P12.1: a handler catches from its From on, up to its To; the first one that does.
func TestHandlers(t *testing.T) {
	// at the place 3 it throws 7
	in := func(h ...int) api.Program {
		f := fn("Nil Pop Const Throw Print Const 1 Print Nil Return Print Const 2 Print Nil Return", consts(7, 1, 2), handlers(h...))
		return api.Program{f}
	}
	const at1, at2 = 4, 9
	wantOut(t, in(3, 4, at1, 0), "7 1")
	wantOut(t, in(0, 4, at1, 0), "7 1")
	wantOut(t, in(0, 4, at2, 0), "7 2")
	wantOut(t, in(3, 4, at2, 0, 3, 4, at1, 0), "7 2")
	wantOut(t, in(3, 4, at1, 0, 0, 4, at2, 0), "7 1") // one within another
	wantOut(t, in(0, 4, at2, 0, 3, 4, at1, 0), "7 2") // the first one, though it is around the other
	wantOut(t, in(0, 3, at1, 0, 1, 4, at2, 0), "7 2")
	wantThrown(t, in(0, 3, at1, 0), "7", "")
	wantThrown(t, in(0, 3, at1, 0, 1, 2, at2, 0), "7", "")
	wantThrown(t, in(), "7", "")
	// thrown behind: by what is printed at 4, that is a handler's own place
	f := fn("Const Throw Nil Return Throw", consts(7), handlers(0, 2, 4, 0))
	wantThrown(t, api.Program{f}, "7", "")
	f = fn("Const Throw Nil Return Throw Print Nil Return", consts(7), handlers(0, 2, 4, 0, 4, 5, 5, 0))
	wantOut(t, api.Program{f}, "7")
}

// P12.1: the stack is cut to Deep values, and the value is pushed.
func TestDeep(t *testing.T) {
	for keeps, w := range []string{"kind", "kind 0", "kind 1 0", "kind 2 1 0", "kind 3 2 1 0", "kind a 3 2 1 0"} {
		f := fn("Const Const 1 Const 2 Const 3 Const 4 Bin 1 Return "+strings.Repeat("Print ", keeps+1)+"Nil Return", consts(0, 1, 2, 3, "a"), handlers(5, 6, 7, keeps))
		wantOut(t, api.Program{f}, w)
	}
	for keeps, w := range []string{"a", "a 0", "a 1 0", "a 2 1 0", "a 3 2 1 0", "a a 3 2 1 0"} {
		f := fn("Const Const 1 Const 2 Const 3 Const 4 Throw "+strings.Repeat("Print ", keeps+1)+"Nil Return", consts(0, 1, 2, 3, "a"), handlers(5, 6, 6, keeps))
		wantOut(t, api.Program{f}, w)
	}
}

// P12.1: what a frame does not catch is thrown in the one ahead, at the place of its OpCall; its stack is without what the call took.
func TestThrownAhead(t *testing.T) {
	for keeps, w := range []string{"9", "9 0", "9 1 0", "9 nil 1 0", "9 nil nil 1 0", "9 nil nil nil 1 0"} {
		main := fn("Const Const 1 Fn 1 Const 2 Const 3 Call 2 Return "+strings.Repeat("Print ", keeps+1)+"Nil Return", consts(0, 1, 2, 3), handlers(5, 6, 7, keeps))
		wantOut(t, api.Program{main, fn("Const Throw", params(2), consts(9))}, w)
	}
	// through frames whose handlers are elsewhere
	main := fn("Fn 1 Call Return Print Yes Print Nil Return", handlers(1, 2, 3, 0))
	middle := fn("Fn 2 Call Return Print Nil Return", handlers(0, 1, 3, 0, 2, 3, 3, 0))
	last := fn("Const Throw Print Nil Return", consts(9), handlers(0, 1, 2, 0))
	wantOut(t, api.Program{main, middle, last}, "9 yes")
	middle.Handlers[0].To = 2
	wantOut(t, api.Program{main, middle, last}, "9")
	last.Handlers[0].To = 2
	middle = fn("Fn 2 Call Print Nil Return", handlers(0, 2, 2, 0))
	wantOut(t, api.Program{fn("Fn 1 Call Print Nil Return"), middle, last}, "9 nil nil")
	wantThrown(t, api.Program{fn("Fn 1 Call Return"), fn("Fn 2 Call Return"), fn("Const Throw", consts(9))}, "9", "")
}

// P12.1: a frame that has caught goes on, and calls, throws and catches again.
func TestCatchesAgain(t *testing.T) {
	wantOut(t, of(t, `var n = 0; while n < 3 { try { try { throw n; } catch e { throw [e]; } } catch e { print e; n = n + 1; } }`), "[0] [1] [2]")
	wantOut(t, of(t, `var f = fn(n) { if n == 0 { throw "deep down"; } try { f(n - 1); } catch e { throw [n, e]; } }; try { f(3); } catch e { print e; }`), "[3, [2, [1, deep down]]]")
	wantOut(t, of(t, `var f = fn(n) { try { if n == 0 { return 1 / 0; } return f(n - 1); } catch e { return n; } }; print f(5);`), "0")
	wantThrown(t, of(t, `try { print 1; throw 2; } catch e { print e; throw 3; }`), "3", "1 2")
	wantThrown(t, of(t, `print 1; print 1 + nil; print 2;`), "kind", "1")
}
