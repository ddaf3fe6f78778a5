package base_test

import (
	"math"
	"reflect"
	"testing"

	"gearbox/api"
	"gearbox/base"
	"gearbox/trials"
)

// wantError: no code.
func wantError(t *testing.T, p api.Program, fn int, w api.Errno) {
	t.Helper()
	if c, e := base.Code(p, fn); e != w || !reflect.DeepEqual(c, api.RegFn{}) {
		t.Errorf("%s%d: %s, %d, want %d", brief(p), fn, brief(c), e, w)
	}
}

// P15.1: a program that may not be, ahead of a function that there is not.
func TestErrors(t *testing.T) {
	two := of(t, "fn() { }; print 1;")
	for _, fn := range []int{-1, 2, 3, 256, 1 << 32, math.MinInt, math.MaxInt} {
		wantError(t, two, fn, api.ErrArg)
	}
	for fn := range 2 {
		if _, e := base.Code(two, fn); e != api.OK {
			t.Error(fn, e)
		}
	}
	for _, p := range trials.Wrong() {
		for _, fn := range []int{0, 1, -1, 9, math.MinInt, math.MaxInt} {
			wantError(t, p, fn, api.ErrForm)
		}
	}
}

// R5: what is answered hangs on the function's code, not on its lines and its name, nor on what other functions do.
func TestOthers(t *testing.T) {
	p := within("Fn 2 Call Pop Yes Unless 8 Nil Pop Loop Up")
	p[1].Code[7].A = 3
	w := code(t, p, 1)
	p[1].Name, p[1].Lines[3] = "f", 70
	p[0].Code[0].A, p[2].Code[0].Op, p[2].Locals = 1, api.OpYes, 5
	want(t, p, 1, w)
}
