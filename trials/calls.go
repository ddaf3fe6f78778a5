package trials

import (
	"strconv"
	"strings"

	"gearbox/api"
)

func (b *book) calls() {
	for _, z := range zoo() {
		b.called(z)
	}
	b.params()
	b.apart()
	b.maxFrames()
	b.points()
}

// called: what is called is a Func, with as many values as its function has Params.
func (b *book) called(z animal) {
	b.name = "what is called"
	right, wrong := "kind", "kind"
	if z.kind == "func" {
		right, wrong = "nil", "args"
	}
	b.pushed(z.code+" Call", right)
	b.pushed(z.code+" Nil Call 1", wrong)
	b.pushed(z.code+" "+strings.Repeat("Nil ", 255)+"Call 255", wrong)
}

func (b *book) params() {
	b.name = "params"
	for params := range 4 {
		for args := range 5 {
			p := printed("Fn 1 " + strings.Repeat("Nil ", args) + "Call " + strconv.Itoa(args))
			p[1] = Fn("Yes Return", Params(params))
			if args == params {
				b.out(p, "yes")
			} else {
				b.out(p, "args")
			}
		}
	}
	// what is beneath stays; the arguments are the first locals, in order, the others nil
	p := printed("Const 2 Const 1 Fn 1 Const 0 Const 2 Call 2 List 3")
	p[1] = Fn("Load Load 1 Load 2 Load 3 List 4 Return", Params(2), Locals(4))
	b.out(p, "[3, ab, [7, 3, nil, nil]]")
}

// apart: each frame has locals and a stack of its own.
func (b *book) apart() {
	b.name = "frames apart"
	p := printed("Yes Store 1 Fn 1 Call Pop Fn 1 Call Load 1 List 2", Locals(2))
	p[1] = Fn("Load 1 Const Store 1 Nil Nil Nil Nil Load 1 List 6 Return", Locals(2), Consts(5))
	b.out(p, "[[nil, nil, nil, nil, nil, 5], yes]")
	b.out(of(`var f = fn(n) { var here = n; if 0 < n { f(n - 1); } print here; return here; }; print f(3);`), "0", "1", "2", "3", "3")
}

// frames: a program in which so many frames are there at once.
func frames(n int) api.Program {
	return of(`var f = fn(n) { if n == 0 { return 1; } return f(n - 1); }; print f(` + strconv.Itoa(n-2) + `);`)
}

// maxFrames: as many frames as may be, and one more.
func (b *book) maxFrames() {
	b.name = "MaxFrames"
	b.out(frames(api.MaxFrames), "1")
	b.throws(frames(api.MaxFrames+1), "deep")
	// where it is caught there is no frame more
	b.out(of(`var g = fn(n) { return n; }; var f = fn(n) { try { return f(n + 1); } catch e { print e; print n; return g(n); } }; print f(1);`), "deep", "127", "deep", "126", "126")
	b.out(of(`var g = fn(n) { return n; }; try { g(); } catch e { print e; } var h = fn(n) { try { return h(n + 1); } catch e { try { g(); } catch k { print k; } return n; } }; print h(1);`), "args", "args", "127")
	// kind and args are told ahead of deep: the last frame has no more than these
	last := func(call string) api.Program {
		return of(`var g = fn() { return 0; }; var f = fn(n) { if n == 0 { return ` + call + `; } return f(n - 1); }; f(126);`)
	}
	b.throws(last("5()"), "kind")
	b.throws(last("g(1)"), "args")
	b.throws(last("g()"), "deep")
	// a point, too: its fuel is taken
	b.want(frames(api.MaxFrames+1), Plenty, 200, api.Outcome{End: api.EndThrown, Value: "deep", Fuel: 200 - 128, Words: 3})
	b.want(frames(api.MaxFrames+1), 10, 200, api.Outcome{End: api.EndThrown, Value: "deep", Fuel: 200 - 128, Words: 3})
	b.want(frames(api.MaxFrames+1), 9, 200, api.Outcome{End: api.EndRoom, Fuel: 200 - 128, Words: 7})
	b.want(frames(api.MaxFrames), Plenty, 200, api.Outcome{End: api.EndDone, Out: []string{"1"}, Fuel: 200 - 127})
}

// points: each takes 1 of the fuel, ahead of what it does; without fuel the run ends there, and nothing was done.
func (b *book) points() {
	b.name = "points"
	p := of(`var f = fn(x) { print x; return x; }; f(1); f(f(2)); var i = 0; while i < 2 { i = i + 1; } print i;`)
	out := []string{"1", "2", "2", "2"}
	for fuel, done := range []int{0, 1, 2, 3, 3} {
		b.add(Trial{Program: p, Room: Plenty, Fuel: fuel, Want: api.Outcome{End: api.EndFuel, Out: out[:done]}, WordsOpen: true})
	}
	b.want(p, Plenty, 5, api.Outcome{End: api.EndDone, Out: out})
	b.want(p, Plenty, 14, api.Outcome{End: api.EndDone, Out: out, Fuel: 9})
	// it is taken where the call throws
	for _, call := range []string{"5();", "fn(a) { }();", "nil(1, 2);"} {
		p := of(`try { ` + call + ` } catch e { }`)
		b.want(p, Plenty, 1, api.Outcome{End: api.EndDone})
		b.add(Trial{Program: p, Room: Plenty, Want: api.Outcome{End: api.EndFuel}, WordsOpen: true})
	}
	// and where there is no room for what it throws
	b.want(api.Program{Fn("Nil Call Return")}, 2, 5, api.Outcome{End: api.EndRoom, Fuel: 4})
	b.want(api.Program{Fn("Nil Call Return")}, 3, 5, api.Outcome{End: api.EndThrown, Value: "kind", Fuel: 4, Words: 3})
	// nothing else is a point
	b.want(tried("Const 0 Const 1 Map 1 Len Show Pop Fn 1 Throw", "Print Yes Unless 15 Nil Return"), Plenty, 0, api.Outcome{End: api.EndDone, Out: []string{"fn 1"}})
}
