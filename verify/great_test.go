package verify_test

import (
	"slices"
	"testing"

	"gearbox/api"
	"gearbox/samples"
	"gearbox/verify"
)

// P9.1, P9.2: many handlers over code of any length, against the second telling: in most of them all handlers' places are told what they are on the way there, too.
func TestManyGuards(t *testing.T) {
	wrong, right := 0, 0
	for seed := range 4000 {
		d := samples.Dice(seed)
		pairs := 1 + d.Below(70)
		p := only(many("Nil Pop", pairs) + "Nil Return")
		for range d.Below(40) {
			to := 1 + d.Below(2*pairs)
			h := api.Handler{From: d.Below(to), To: to, At: min(2*pairs+1, (to+d.Below(20))|1)}
			if d.Below(40) == 0 {
				h.From, h.Deep = to-1, d.Below(2)
			}
			if d.Below(200) == 0 {
				h.At = to
			}
			p[0].Handlers = append(p[0].Handlers, h)
		}
		if alike(t, p) == api.OK {
			right++
		} else {
			wrong++
		}
	}
	if wrong < 500 || right < 1000 {
		t.Errorf("%d wrong, %d right", wrong, right)
	}
}

// toAndFro: code that goes to its end and back, for each of its places anew.
func toAndFro() api.Fn {
	half := api.MaxCode / 2
	code := make([]api.Ins, api.MaxCode)
	for i := range half {
		code[i] = api.Ins{Op: api.OpJump, A: half + i}
		code[half+i] = api.Ins{Op: api.OpLoop, A: min(i+1, half-1)}
	}
	return api.Fn{Code: code, Lines: make([]int, api.MaxCode)}
}

// R1: code as great as may be, in time that is not.
func TestGreatest(t *testing.T) {
	f := toAndFro()
	for range api.MaxCode {
		f.Handlers = append(f.Handlers, api.Handler{From: 0, To: api.MaxCode - 2, At: api.MaxCode - 1})
	}
	f.Code[api.MaxCode-1] = api.Ins{Op: api.OpReturn}
	f.Code[api.MaxCode/2-1].A = api.MaxCode - 2
	p := slices.Repeat(api.Program{f}, 40)
	wantRight(t, p)
	l, e := verify.Depths(p, 39)
	if want := append(make([]int, api.MaxCode-1), 1); e != api.OK || !slices.Equal(l, want) {
		t.Errorf("%d places, %d", len(l), e)
	}
}

// R1: a function that is made again and again, closed over as much as may be.
func TestMadeOften(t *testing.T) {
	var main api.Fn
	for range api.MaxCode/2 - 1 {
		main.Code = append(main.Code, api.Ins{Op: api.OpFn, A: 1}, api.Ins{Op: api.OpPop})
	}
	main.Code = append(main.Code, api.Ins{Op: api.OpNil}, api.Ins{Op: api.OpReturn})
	main.Lines = make([]int, len(main.Code))
	main.Locals = 1
	p := api.Program{main}
	for n := 1; n < api.MaxFns; n++ { // each makes the next one
		f := main
		f.Caps = make([]api.Cap, api.MaxParts)
		f.Code = slices.Clone(f.Code)
		for pc := range f.Code {
			if f.Code[pc].Op == api.OpFn {
				f.Code[pc].A = n + 1
			}
		}
		p = append(p, f)
	}
	p[api.MaxFns-1].Code = fn("Nil Return").Code
	p[api.MaxFns-1].Lines = fn("Nil Return").Lines
	wantRight(t, p)
}
