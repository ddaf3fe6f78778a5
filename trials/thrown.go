package trials

import (
	"strings"

	"gearbox/api"
)

func (b *book) thrown() {
	b.values()
	b.handlers()
	b.deep()
	b.ahead()
	b.again()
}

// values: one of every kind is thrown as it is, but a cell.
func (b *book) values() {
	b.name = "what is thrown"
	for _, z := range zoo() {
		b.pushed(z.code+" Throw", z.but(z.text))
		b.throws(tried("Nil", "Pop "+z.code+" Throw"), z.but(z.text))
	}
	// it is the same object
	b.out(api.Program{Fn("List Dup Store Throw Load Bin 8 Print Nil Return", Locals(1), Handlers(3, 4, 4, 0))}, "yes")
	text := strings.Repeat("x", api.MaxText)
	b.want(api.Program{Fn("Const List 1 Throw", Consts(text))}, 600, 0, api.Outcome{End: api.EndThrown, Value: "great", Words: 2 + 512 + 6})
	b.want(api.Program{Fn("Const Throw", Consts(text))}, 600, 0, api.Outcome{End: api.EndThrown, Value: text, Words: 2 + 512})
}

// seven: at the place 3 it throws 7; at the place 4, and at 9, that is printed.
func seven(h ...int) api.Program {
	return api.Program{Fn("Nil Pop Const Throw Print Const 1 Print Nil Return Print Const 2 Print Nil Return", Consts(7, 1, 2), Handlers(h...))}
}

// handlers: one catches from its From on, up to its To; the first one that does.
func (b *book) handlers() {
	b.name = "handlers"
	const at1, at2 = 4, 9
	b.out(seven(3, 4, at1, 0), "7", "1")
	b.out(seven(0, 4, at1, 0), "7", "1")
	b.out(seven(0, 4, at2, 0), "7", "2")
	b.out(seven(3, 4, at2, 0, 3, 4, at1, 0), "7", "2")
	b.out(seven(3, 4, at1, 0, 0, 4, at2, 0), "7", "1") // one within another
	b.out(seven(0, 4, at2, 0, 3, 4, at1, 0), "7", "2") // the first one, though it is around the other
	b.out(seven(0, 3, at1, 0, 1, 4, at2, 0), "7", "2")
	b.throws(seven(0, 3, at1, 0), "7")
	b.throws(seven(0, 3, at1, 0, 1, 2, at2, 0), "7")
	b.throws(seven(), "7")
	// thrown behind: at the place to which a handler leads
	f := Fn("Const Throw Nil Return Throw", Consts(7), Handlers(0, 2, 4, 0))
	b.throws(api.Program{f}, "7")
	f = Fn("Const Throw Nil Return Throw Print Nil Return", Consts(7), Handlers(0, 2, 4, 0, 4, 5, 5, 0))
	b.out(api.Program{f}, "7")
}

// deep: the stack is cut to Deep values, and the value is pushed.
func (b *book) deep() {
	b.name = "what a handler keeps"
	below := strings.Fields("a 3 2 1 0")
	for keeps := range 6 {
		f := Fn("Const Const 1 Const 2 Const 3 Const 4 Bin 1 Return "+strings.Repeat("Print ", keeps+1)+"Nil Return", Consts(0, 1, 2, 3, "a"), Handlers(5, 6, 7, keeps))
		b.out(api.Program{f}, append([]string{"kind"}, below[5-keeps:]...)...)
		f = Fn("Const Const 1 Const 2 Const 3 Const 4 Throw "+strings.Repeat("Print ", keeps+1)+"Nil Return", Consts(0, 1, 2, 3, "a"), Handlers(5, 6, 6, keeps))
		b.out(api.Program{f}, append([]string{"a"}, below[5-keeps:]...)...)
	}
}

// ahead: what a frame does not catch is thrown in the one ahead, at the place of its OpCall; its stack is without what the call took.
func (b *book) ahead() {
	b.name = "thrown in a frame ahead"
	below := strings.Fields("nil nil nil 1 0")
	for keeps := range 6 {
		main := Fn("Const Const 1 Fn 1 Const 2 Const 3 Call 2 Return "+strings.Repeat("Print ", keeps+1)+"Nil Return", Consts(0, 1, 2, 3), Handlers(5, 6, 7, keeps))
		b.out(api.Program{main, Fn("Const Throw", Params(2), Consts(9))}, append([]string{"9"}, below[5-keeps:]...)...)
	}
	// through frames whose handlers are elsewhere
	main := Fn("Fn 1 Call Return Print Yes Print Nil Return", Handlers(1, 2, 3, 0))
	elsewhere := Fn("Fn 2 Call Return Print Nil Return", Handlers(0, 1, 3, 0, 2, 3, 3, 0))
	last := Fn("Const Throw Print Nil Return", Consts(9), Handlers(0, 1, 2, 0))
	b.out(api.Program{main, elsewhere, last}, "9", "yes")
	there := Fn("Fn 2 Call Return Print Nil Return", Handlers(0, 2, 3, 0, 2, 3, 3, 0))
	b.out(api.Program{main, there, last}, "9")
	itself := Fn("Const Throw Print Nil Return", Consts(9), Handlers(0, 2, 2, 0))
	b.out(api.Program{Fn("Fn 1 Call Print Nil Return"), Fn("Fn 2 Call Print Nil Return", Handlers(0, 2, 2, 0)), itself}, "9", "nil", "nil")
	b.throws(api.Program{Fn("Fn 1 Call Return"), Fn("Fn 2 Call Return"), Fn("Const Throw", Consts(9))}, "9")
}

// again: a frame that has caught goes on, and calls, throws and catches again.
func (b *book) again() {
	b.name = "caught again"
	b.out(of(`var n = 0; while n < 3 { try { try { throw n; } catch e { throw [e]; } } catch e { print e; n = n + 1; } }`), "[0]", "[1]", "[2]")
	b.out(of(`var f = fn(n) { if n == 0 { throw "deep down"; } try { f(n - 1); } catch e { throw [n, e]; } }; try { f(3); } catch e { print e; }`), "[3, [2, [1, deep down]]]")
	b.out(of(`var f = fn(n) { try { if n == 0 { return 1 / 0; } return f(n - 1); } catch e { return n; } }; print f(5);`), "0")
	b.throws(of(`try { print 1; throw 2; } catch e { print e; throw 3; }`), "3", "1", "2")
	b.throws(of(`print 1; print 1 + nil; print 2;`), "kind", "1")
}
