package model_test

import (
	"fmt"
	"strings"
	"testing"

	"gearbox/api"
)

// P12.1: what is called is a Func, with as many values as its function has Params.
func TestCall(t *testing.T) {
	for _, z := range zoo {
		w := "kind"
		if z.kind == "func" {
			w = "nil"
		}
		wantPushed(t, z.code+" Call", w)
		if z.kind == "func" {
			w = "args"
		}
		wantPushed(t, z.code+" Nil Call 1", w)
		wantPushed(t, z.code+" "+strings.Repeat("Nil ", 255)+"Call 255", w)
	}
	for params := range 4 {
		for args := range 5 {
			p := tried("Fn 1 "+strings.Repeat("Nil ", args)+fmt.Sprintf("Call %d", args), "Print Nil Return")
			p[1] = fn("Yes Return", func(f *api.Fn) { f.Params, f.Locals = params, params })
			w := "args"
			if args == params {
				w = "yes"
			}
			wantOut(t, p, w)
		}
	}
	// kind is told ahead of args
	wantPushed(t, "Nil Nil Call 1", "kind")
	// what is beneath stays; the arguments are the first locals, in order, the others nil
	p := tried("Const 2 Const 1 Fn 1 Const 0 Const 2 Call 2 List 3", "Print Nil Return")
	p[1] = fn("Load Load 1 Load 2 Load 3 List 4 Return", params(2), locals(4))
	wantOut(t, p, "[3, ab, [7, 3, nil, nil]]")
}

// P12.1: each frame has locals and a stack of its own.
func TestFramesApart(t *testing.T) {
	p := tried("Yes Store 1 Fn 1 Call Pop Fn 1 Call Load 1 List 2", "Print Nil Return", locals(2))
	p[1] = fn("Load 1 Const Store 1 Nil Nil Nil Nil Load 1 List 6 Return", locals(2), consts(5))
	wantOut(t, p, "[[nil, nil, nil, nil, nil, 5], yes]")
	wantOut(t, of(t, `var f = fn(n) { var here = n; if 0 < n { f(n - 1); } print here; return here; }; print f(3);`), "0 1 2 3 3")
	wantOut(t, of(t, `var g = fn(n) { return [n, fn() { n = n + 1; return n; }]; }; var a = g(1); var b = g(10); a[1](); print a[1](); print b[1](); print a[0];`), "3 11 1")
	wantOut(t, of(t, `var make = fn(n) { return fn(m) { return fn() { return [n, m]; }; }; }; print make(1)(2)(); print make(3)(4)();`), "[1, 2] [3, 4]")
}

// frames: a program in which so many frames are there when the last one is asked for one more.
func frames(n int) api.Program {
	text := fmt.Sprintf(`var f = fn(n) { if n == 0 { return 1; } return f(n - 1); }; print f(%d);`, n-2)
	return mustOf(text)
}

// P12.1: MaxFrames frames, and one more.
func TestMaxFrames(t *testing.T) {
	wantOut(t, frames(api.MaxFrames), "1")
	wantThrown(t, frames(api.MaxFrames+1), "deep", "")
	deepest := `var f = fn(n) { try { return f(n + 1); } catch e { print e; print n; return g(n); } };`
	wantOut(t, of(t, `var g = fn(n) { return n; }; `+deepest+` print f(1);`), "deep 127 deep 126 126") // where it is caught there is no frame more
	wantOut(t, of(t, `var g = fn(n) { return n; }; try { g(); } catch e { print e; } var h = fn(n) { try { return h(n + 1); } catch e { try { g(); } catch k { print k; } return n; } }; print h(1);`), "args args 127")
	// kind and args are told ahead of deep: the last frame has no more than these
	for call, w := range map[string]string{"5()": "kind", "g(1)": "args", "g()": "deep"} {
		p := of(t, `var g = fn() { return 0; }; var f = fn(n) { if n == 0 { return `+call+`; } return f(n - 1); }; f(126);`)
		wantThrown(t, p, w, "")
	}
	// a point, too: its fuel is taken
	want(t, frames(api.MaxFrames+1), plenty, 200, api.Outcome{End: api.EndThrown, Value: "deep", Fuel: 200 - 128, Words: 3})
	want(t, frames(api.MaxFrames+1), 10, 200, api.Outcome{End: api.EndThrown, Value: "deep", Fuel: 200 - 128, Words: 3})
	want(t, frames(api.MaxFrames+1), 9, 200, api.Outcome{End: api.EndRoom, Fuel: 200 - 128, Words: 7})
	want(t, frames(api.MaxFrames), plenty, 200, api.Outcome{End: api.EndDone, Out: []string{"1"}, Fuel: 200 - 127})
}

// P12.1: a point takes 1 of the fuel, ahead of what it does; without fuel the run ends there, and nothing was done.
func TestPoints(t *testing.T) {
	p := of(t, `var f = fn(x) { print x; return x; }; f(1); f(f(2)); var i = 0; while i < 2 { i = i + 1; } print i;`)
	out := []string{"1", "2", "2", "2"}
	for fuel, done := range []int{0, 1, 2, 3, 3, 4} {
		o := run(t, p, plenty, fuel)
		if fuel == 5 {
			want(t, p, plenty, fuel, api.Outcome{End: api.EndDone, Out: out})
			want(t, p, plenty, fuel+9, api.Outcome{End: api.EndDone, Out: out, Fuel: 9})
			continue
		}
		if o.End != api.EndFuel || len(o.Out) != done || o.Fuel != 0 {
			t.Errorf("fuel %d: %v", fuel, o)
		}
	}
	// it is taken where the call throws
	for _, call := range []string{"5();", "fn(a) { }();", "nil(1, 2);"} {
		p := of(t, `try { `+call+` } catch e { }`)
		want(t, p, plenty, 1, api.Outcome{End: api.EndDone})
		if o := run(t, p, plenty, 0); o.End != api.EndFuel || o.Fuel != 0 {
			t.Errorf("%s: %v", call, o)
		}
	}
	// and where there is no room for what it throws
	want(t, api.Program{fn("Nil Call Return")}, 2, 5, api.Outcome{End: api.EndRoom, Fuel: 4})
	want(t, api.Program{fn("Nil Call Return")}, 3, 5, api.Outcome{End: api.EndThrown, Value: "kind", Fuel: 4, Words: 3})
	// nothing else is a point
	want(t, tried("Const 0 Const 1 Map 1 Len Show Pop Fn 1 Throw", "Print Yes Unless 15 Nil Return"), plenty, 0, api.Outcome{End: api.EndDone, Out: []string{"fn 1"}})
}
