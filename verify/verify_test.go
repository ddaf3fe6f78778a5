package verify_test

import (
	"math"
	"slices"
	"strings"
	"testing"

	"gearbox/api"
	"gearbox/verify"
)

// only: a program of one function.
func only(s string, more ...func(*api.Fn)) api.Program { return api.Program{fn(s, more...)} }

// P9.1, P9.2: the examples of the chapter.
func TestExamples(t *testing.T) {
	wantRight(t, only("Nil Return"), 0, 1)
	for _, s := range []string{"", "Nil", "Return"} {
		wantFault(t, only(s), 0, 0)
	}
	wantRight(t, only("Yes Unless 3 Loop Nil Return"), 0, 1, 0, 0, 1)
	wantFault(t, only("Nil Unless 1 Nil Return"), 0, 1)
	wantFault(t, only("Nil Pop Loop 1"), 0, 2)
	wantFault(t, only("Const Return"), 0, 0)
	wantFault(t, only("Load Return"), 0, 0)
	wantFault(t, only("Nil Nil Unless 4 Pop Nil Return"), 0, 3)
	wantRight(t, only("Nil Throw Return", handlers(0, 2, 2, 0)), 0, 1, 1)
	wantFault(t, only("Nil Throw Return", handlers(0, 2, 2, 1)), 0, 0)
	wantFault(t, only("Nil Return 1"), 0, 1)
	wantFault(t, only("Nil Loop"), 0, 1)
	closed, open := fn("Nil Return", caps(api.Cap{N: 0})), fn("Nil Return")
	wantFault(t, api.Program{fn("Fn 1 Return"), closed}, 0, 0)
	wantRight(t, api.Program{fn("Fn 1 Return", locals(1)), closed}, 0, 1)
	wantFault(t, api.Program{open, closed}, 1, 0)
	wantRight(t, api.Program{open, open}, 0, 1)
}

// P9.1: how many functions there may be.
func TestFunctions(t *testing.T) {
	l := slices.Repeat(only("Nil Return"), api.MaxFns+1)
	wantFault(t, nil, 0, 0)
	wantFault(t, api.Program{}, 0, 0)
	wantRight(t, l[:1], 0, 1)
	wantRight(t, l[:api.MaxFns], 0, 1)
	wantFault(t, l, 0, 0)
	wantFault(t, append(slices.Clone(l), fn("Return")), 0, 0)
}

// headOf: a program whose second function has something set; the first one makes it, so that it may have Caps.
func headOf(more ...func(*api.Fn)) api.Program {
	return api.Program{fn("Fn 1 Return", locals(1)), fn("Nil Return", more...)}
}

// P9.1: heads, at their limits and beyond.
func TestHeads(t *testing.T) {
	consts := func(l ...api.Const) func(*api.Fn) { return func(f *api.Fn) { f.Consts = l } }
	lines := func(l ...int) func(*api.Fn) { return func(f *api.Fn) { f.Lines = l } }
	name := func(n int) func(*api.Fn) { return func(f *api.Fn) { f.Name = strings.Repeat("n", n) } }
	counts := func(params, locals int) func(*api.Fn) {
		return func(f *api.Fn) { f.Params, f.Locals = params, locals }
	}
	long := strings.Repeat("a", api.MaxText)
	for _, m := range []func(*api.Fn){
		name(0), name(1), name(api.MaxText), counts(0, 0), counts(0, 1), counts(1, 1), counts(0, api.MaxLocals), counts(api.MaxLocals, api.MaxLocals), counts(api.MaxLocals-1, api.MaxLocals),
		caps(), caps(make([]api.Cap, api.MaxParts)...), consts(), consts(slices.Repeat([]api.Const{{Kind: api.Int}}, api.MaxCode)...),
		consts(api.Const{Kind: api.Int, N: 1}, api.Const{Kind: api.Int, N: math.MinInt64}, api.Const{Kind: api.Int, N: math.MaxInt64}, api.Const{Kind: api.Int}, api.Const{Kind: api.Int}),
		consts(api.Const{Kind: api.Text}, api.Const{Kind: api.Text, S: "\x00\xff"}, api.Const{Kind: api.Text, S: long}, api.Const{Kind: api.Text, S: long}),
		lines(0, 1), lines(1, 0), lines(math.MaxInt, math.MaxInt),
		handlers(), handlers(0, 1, 1, 0), func(f *api.Fn) { f.Handlers = slices.Repeat([]api.Handler{{From: 0, To: 1, At: 1}}, api.MaxCode) },
	} {
		wantRight(t, headOf(m))
	}
	for _, m := range []func(*api.Fn){
		name(api.MaxText + 1), name(2 * api.MaxText), counts(-1, 0), counts(1, 0), counts(2, 1), counts(0, -1), counts(-1, -1), counts(-2, -1), counts(0, api.MaxLocals+1), counts(api.MaxLocals+1, api.MaxLocals+1), counts(math.MinInt, 0), counts(0, math.MaxInt), counts(math.MaxInt, math.MaxInt), counts(math.MinInt, math.MinInt),
		caps(make([]api.Cap, api.MaxParts+1)...), consts(slices.Repeat([]api.Const{{Kind: api.Int}}, api.MaxCode+1)...),
		consts(api.Const{}), consts(api.Const{Kind: api.Bool}), consts(api.Const{Kind: api.List}), consts(api.Const{Kind: api.Func}), consts(api.Const{Kind: 255}),
		consts(api.Const{Kind: api.Int, S: "a"}), consts(api.Const{Kind: api.Text, N: 1}), consts(api.Const{Kind: api.Text, N: -1, S: "a"}), consts(api.Const{Kind: api.Text, S: long + "a"}), consts(api.Const{Kind: api.Int}, api.Const{Kind: api.Int}, api.Const{}),
		lines(), lines(0), lines(0, 0, 0), lines(-1, 0), lines(0, -1), lines(math.MinInt, 0),
		func(f *api.Fn) { f.Code, f.Lines = nil, nil }, func(f *api.Fn) { f.Code = nil },
		func(f *api.Fn) { f.Handlers = slices.Repeat([]api.Handler{{From: 0, To: 1, At: 1}}, api.MaxCode+1) },
		handlers(-1, 1, 1, 0), handlers(0, 0, 1, 0), handlers(1, 1, 1, 0), handlers(1, 0, 1, 0), handlers(0, 1, 0, 0), handlers(0, 2, 1, 0), handlers(0, 2, 2, 0), handlers(0, 1, 2, 0), handlers(0, 1, 1, -1), handlers(0, 1, 1, api.MaxStack), handlers(0, 1, 1, math.MaxInt),
		handlers(math.MinInt, math.MaxInt, math.MaxInt, 0), handlers(0, math.MaxInt, math.MaxInt, 0), handlers(0, math.MinInt, 1, 0), handlers(0, 1, math.MinInt, 0), handlers(math.MaxInt, math.MinInt, 1, 0), handlers(0, 1, 1, math.MinInt),
		handlers(0, 1, 1, 0, 0, 1, 1, 0, 0, 1, 2, 0),
	} {
		wantFault(t, headOf(m), 1, 0)
	}
	for _, deep := range []int{1, api.MaxStack - 1} {
		wantFault(t, headOf(handlers(0, 1, 1, deep)), 1, 0) // that is one of depths
		wantRight(t, only(many("Nil", deep)+"Nil Return", handlers(deep, deep+1, deep+1, deep)))
	}
}

// P9.1: what is asked of the main function's head alone.
func TestMain(t *testing.T) {
	wantRight(t, only("Nil Return", locals(api.MaxLocals)), 0, 1)
	wantFault(t, only("Nil Return", func(f *api.Fn) { f.Params, f.Locals = 1, 1 }), 0, 0)
	wantFault(t, only("Nil Return", func(f *api.Fn) { f.Params = -1 }), 0, 0)
	wantFault(t, only("Nil Return", caps(api.Cap{})), 0, 0)
	wantFault(t, only("Nil Return", caps(api.Cap{}), locals(1)), 0, 0)
	wantFault(t, api.Program{fn("Fn 1 Return"), fn("Fn 1 Return", func(f *api.Fn) { f.Params = 1 })}, 1, 0)
}

// P9.1: how many instructions there may be.
func TestLength(t *testing.T) {
	wantRight(t, only(many("Nil Pop", api.MaxCode/2-1)+"Nil Return"))
	wantFault(t, only(many("Nil Pop", api.MaxCode/2-1)+"Nil Nil Return"), 0, 0)
	l, e := verify.Depths(only(many("Nil Pop", api.MaxCode/2-1)+"Nil Return"), 0)
	if e != api.OK || !slices.Equal(l, slices.Repeat([]int{0, 1}, api.MaxCode/2)) {
		t.Errorf("%d places, %d", len(l), e)
	}
}

// P9.1: what may be the last instruction.
func TestLast(t *testing.T) {
	for _, word := range words {
		right := word == "Return" || word == "Throw" || word == "Loop"
		if p := only("Nil Return "+word, locals(1)); right {
			wantRight(t, p, 0, 1, -1)
		} else {
			wantFault(t, p, 0, 2)
		}
		if p := only("Loop "+word, locals(1)); right {
			wantRight(t, p, 0, -1)
		} else {
			wantFault(t, p, 0, 1)
		}
	}
	wantFault(t, only("Nil Return Jump 3"), 0, 2)
	wantFault(t, only("Nil Return Jump 2"), 0, 2)
	wantFault(t, only("Nil Return Unless 3"), 0, 2)
}

// P9.2: each function has depths of its own.
func TestDepths(t *testing.T) {
	p := api.Program{fn("Yes Unless 3 Loop Nil Return Loop"), fn("Nil Nil Bin 1 Return"), fn("Jump 2 Loop Nil Return")}
	wantDepths(t, p, 0, 0, 1, 0, 0, 1, -1)
	wantDepths(t, p, 1, 0, 1, 2, 1)
	wantDepths(t, p, 2, 0, -1, 0, 1)
	for _, n := range []int{-1, 3, 4, math.MaxInt, math.MinInt} {
		if l, e := verify.Depths(p, n); l != nil || e != api.ErrArg {
			t.Errorf("Depths of function %d: %v, %d", n, l, e)
		}
	}
	p[2].Code[3].A = 1
	for _, n := range []int{-1, 0, 1, 2, 3} {
		if l, e := verify.Depths(p, n); l != nil || e != api.ErrForm {
			t.Errorf("Depths of function %d: %v, %d", n, l, e)
		}
	}
}
