package verify_test

import (
	"math"
	"testing"

	"gearbox/api"
)

// P9.1: which one of several faults is told: function by function; of a function its head, then its instructions, then its depths; what is made by nobody behind all.
func TestFirstFault(t *testing.T) {
	right, unmade := fn("Nil Return"), fn("Nil Return", caps(api.Cap{}))
	bad := []struct {
		fn api.Fn
		pc int
	}{{fn("Nil Nil Return", func(f *api.Fn) { f.Lines = nil }), 0}, {fn("Nil Nil Return 1"), 2}, {fn("Nil Pop Pop Nil Return"), 2}}
	for _, f := range bad {
		for _, other := range bad {
			wantFault(t, api.Program{f.fn, other.fn}, 0, f.pc)
			wantFault(t, api.Program{right, f.fn, other.fn}, 1, f.pc)
			wantFault(t, api.Program{right, unmade, right, f.fn, unmade, other.fn}, 3, f.pc)
		}
	}
	wantFault(t, api.Program{right, right, unmade, right, unmade}, 2, 0)
	wantFault(t, api.Program{right, fn("Fn 2 Return", locals(1)), unmade, right, unmade}, 4, 0)
	// Of one function.
	wantFault(t, only("Nil Pop Pop Nil Return 1"), 0, 4)
	wantFault(t, only("Nil Pop Pop Jump 1 Nil Return 1"), 0, 3)
	wantFault(t, only("Nil Pop Pop Nil"), 0, 3)
	wantFault(t, only("Nil Pop Pop Nil Return 1", locals(-1)), 0, 0)
	wantFault(t, only("Nil Pop Nil Return Nil Return 1 Return 2"), 0, 5)
	wantFault(t, only("Nil Pop Pop Bin 1 Nil Return"), 0, 2)
}

// P9.1: a function is made by one function alone, be it at several places.
func TestMakers(t *testing.T) {
	end := fn("Nil Return")
	wantRight(t, api.Program{fn("Fn 1 Pop Fn 1 Return"), end}, 0, 1, 0, 1)
	wantRight(t, api.Program{fn("Fn 1 Fn 1 Fn 2 Fn 1 Return"), end, end})
	wantFault(t, api.Program{fn("Fn 1 Return"), end, fn("Nil Pop Fn 1 Return")}, 2, 2)
	wantFault(t, api.Program{fn("Fn 1 Return"), fn("Fn 2 Return"), fn("Fn 2 Return")}, 2, 0)
	wantFault(t, api.Program{fn("Fn 1 Pop Fn 2 Return"), fn("Fn 2 Return"), end}, 1, 0)
	wantRight(t, api.Program{fn("Fn 1 Return"), fn("Fn 2 Return"), end})
	wantRight(t, api.Program{fn("Fn 2 Return"), end, fn("Fn 1 Return")})
	// What is never come to makes functions, too.
	wantFault(t, api.Program{fn("Nil Return Fn 1 Return"), fn("Nil Return Fn 2 Return"), fn("Nil Return Fn 1 Return")}, 2, 2)
	wantRight(t, api.Program{fn("Nil Return Fn 1 Return", locals(1)), fn("Nil Return", caps(api.Cap{}))})
	// A function may make itself, if no other one does.
	wantRight(t, api.Program{end, fn("Fn 1 Fn 1 Return")})
	wantFault(t, api.Program{fn("Fn 1 Return"), fn("Fn 1 Return")}, 1, 0)
	wantFault(t, api.Program{end, fn("Fn 1 Return"), fn("Fn 1 Return")}, 2, 0)
	wantRight(t, api.Program{end, fn("Fn 1 Return", caps(api.Cap{Up: true}))})
	wantFault(t, api.Program{end, fn("Fn 1 Return", caps(api.Cap{Up: true, N: 1}))}, 1, 0)
	// Two may make each other.
	wantRight(t, api.Program{end, fn("Fn 2 Return", locals(1), caps(api.Cap{Up: true})), fn("Fn 1 Return", caps(api.Cap{N: 0}))})
}

// P9.1: what a function is closed over is there, in the function that makes it.
func TestCaps(t *testing.T) {
	for _, c := range []struct {
		cap   api.Cap
		right bool
	}{
		{api.Cap{N: 0}, true}, {api.Cap{N: 4}, true}, {api.Cap{N: 5}, false}, {api.Cap{N: -1}, false}, {api.Cap{N: math.MinInt}, false}, {api.Cap{N: math.MaxInt}, false},
		{api.Cap{Up: true, N: 0}, true}, {api.Cap{Up: true, N: 1}, true}, {api.Cap{Up: true, N: 2}, false}, {api.Cap{Up: true, N: -1}, false}, {api.Cap{Up: true, N: math.MinInt}, false}, {api.Cap{Up: true, N: math.MaxInt}, false},
	} {
		for _, ahead := range [][]api.Cap{nil, {{N: 0}}, {{N: 0}, {Up: true, N: 1}}} {
			p := rooms("Nil Pop Fn 2 Return")
			p[2].Caps = append(ahead, c.cap)
			p[2].Locals = 64
			if c.right {
				wantRight(t, p)
			} else {
				wantFault(t, p, 1, 2)
			}
			p[2].Caps = append(p[2].Caps, api.Cap{N: 1})
			if !c.right {
				wantFault(t, p, 1, 2)
			}
			p = rooms("Nil Pop Fn 2 Pop Fn 3 Pop Fn 2 Pop Fn 3 Return")
			p[3].Caps = append(ahead, c.cap)
			if !c.right {
				wantFault(t, p, 1, 4)
			}
		}
	}
	// The place at which it is made is told, though the head of what is made may not be either.
	p := rooms("Nil Pop Fn 2 Return")
	p[2].Caps = append(make([]api.Cap, api.MaxParts), api.Cap{N: 5})
	wantFault(t, p, 1, 2)
	p[2].Caps[api.MaxParts].N = 4
	wantFault(t, p, 2, 0)
	// With a fault of its number ahead of those of what it makes.
	wantFault(t, api.Program{fn("Nil Pop 1 Fn 1 Return"), fn("Nil Return", caps(api.Cap{}))}, 0, 1)
}

// P9.1: the first function with Caps that nobody makes.
func TestUnmade(t *testing.T) {
	closed := fn("Nil Return", caps(api.Cap{}))
	closedBadly := fn("Nil Return", caps(api.Cap{N: -7}))
	right := fn("Nil Return")
	wantFault(t, api.Program{right, closed}, 1, 0)
	wantFault(t, api.Program{right, closedBadly}, 1, 0)
	wantFault(t, api.Program{right, right, right, closed, closed}, 3, 0)
	wantFault(t, api.Program{fn("Fn 1 Fn 3 Return", locals(1)), closed, right, closed, closed}, 4, 0)
	wantRight(t, api.Program{fn("Fn 1 Fn 3 Fn 4 Return", locals(1)), closed, right, closed, closed})
}
