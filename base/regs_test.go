package base

import (
	"testing"

	"gearbox/api"
)

// P15.1: more registers than there may be. No function that may be has as many slots, so it is asked of the limit alone.
func TestMaxRegs(t *testing.T) {
	for _, c := range []struct {
		locals int
		depths []int
		regs   int
		e      api.Errno
	}{
		{0, []int{0}, 0, api.OK},
		{2, []int{0, 3, -1, 1}, 5, api.OK},
		{api.MaxLocals, []int{0, api.MaxStack}, 320, api.OK},
		{4090, []int{0, 6, 2}, 4096, api.OK},
		{4090, []int{0, 7, 2}, 0, api.ErrLimit},
		{4097, []int{0, -1}, 0, api.ErrLimit},
	} {
		if regs, e := regsOf(&api.Fn{Locals: c.locals}, c.depths); regs != c.regs || e != c.e {
			t.Errorf("%d, %v: %d, %d", c.locals, c.depths, regs, e)
		}
	}
}
