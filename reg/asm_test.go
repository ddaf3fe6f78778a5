package reg_test

import (
	"gearbox/api"
	"gearbox/trials"
)

// Short names of what makes code of registers of words.

func ins(s string) api.RegIns { return trials.RegIns(s) }

func loc(s string) api.Loc { return trials.RegLoc(s) }

func regs(n int, code, exits, entries string) api.RegFn {
	return trials.RegFn(n, code, exits, entries)
}

// main: code of the main function alone.
func main(c api.RegFn) map[int]api.RegFn { return map[int]api.RegFn{0: c} }
