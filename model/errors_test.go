package model_test

import (
	"math"
	"slices"
	"testing"

	"gearbox/api"
	"gearbox/samples"
	"gearbox/trials"
	"gearbox/verify"
)

// P12.1: room and fuel outside their bounds; those are told ahead of code that may not be.
func TestArgs(t *testing.T) {
	right, wrong := of(t, "print 1;"), api.Program{trials.Fn("Nil")}
	for _, p := range []api.Program{right, wrong, nil, {}} {
		for _, bad := range []int{0, -1, api.MaxWords + 1, math.MinInt, math.MaxInt} {
			wantError(t, p, bad, 0, api.ErrArg)
			wantError(t, p, bad, -1, api.ErrArg)
		}
		for _, bad := range []int{-1, api.MaxFuel + 1, math.MinInt, math.MaxInt} {
			wantError(t, p, 1, bad, api.ErrArg)
			wantError(t, p, api.MaxWords, bad, api.ErrArg)
		}
	}
	for _, room := range []int{1, api.MaxWords} {
		for _, fuel := range []int{0, api.MaxFuel} {
			want(t, right, room, fuel, api.Outcome{End: api.EndDone, Out: []string{"1"}, Fuel: fuel})
			for _, p := range []api.Program{wrong, nil, {}, make(api.Program, api.MaxFns+1)} {
				wantError(t, p, room, fuel, api.ErrForm)
			}
		}
	}
}

// P12.1, R1: code with something of it changed: the error of verify.Check, or a run that ends.
func TestSpoilt(t *testing.T) {
	wrong, right := 0, 0
	for seed := range 4000 {
		d := samples.Dice(seed)
		p := copyOf(samples.Code(seed))
		f := &p[d.Below(len(p))]
		i := &f.Code[d.Below(len(f.Code))]
		switch d.Below(6) {
		case 0:
			i.Op = api.Op(d.Below(33))
		case 1:
			i.A += d.Below(5) - 2
		case 2:
			*i = f.Code[d.Below(len(f.Code))]
		case 3:
			f.Locals += d.Below(3) - 1
		case 4:
			if len(f.Handlers) > 0 {
				h := &f.Handlers[d.Below(len(f.Handlers))]
				*[]*int{&h.From, &h.To, &h.At, &h.Deep}[d.Below(4)] += d.Below(3) - 1
			}
		case 5:
			f.Caps = append(f.Caps, api.Cap{Up: d.Below(2) == 0, N: d.Below(3)})
		}
		if _, _, e := verify.Check(p); e != api.OK {
			wantError(t, p, 100, 10, e)
			wrong++
			continue
		}
		alike(t, p, 1+d.Below(100), d.Below(20), nil)
		right++
	}
	if wrong < 500 || right < 500 {
		t.Errorf("%d wrong, %d right", wrong, right)
	}
}

// R4: what is handed in stays as it is, and is not part of what is answered; empty and nil mean the same.
func TestHandedIn(t *testing.T) {
	for seed := range 300 {
		p := samples.Code(seed)
		q := copyOf(p)
		first := run(t, q, 500, 50)
		for i := range p {
			if !slices.Equal(p[i].Code, q[i].Code) || !slices.Equal(p[i].Consts, q[i].Consts) || !slices.Equal(p[i].Caps, q[i].Caps) || !slices.Equal(p[i].Handlers, q[i].Handlers) || !slices.Equal(p[i].Lines, q[i].Lines) {
				t.Fatalf("%d: the program was changed", seed)
			}
		}
		second := run(t, q, 500, 50)
		clear(first.Out[:cap(first.Out)])
		if third := run(t, q, 500, 50); !same(second, third) {
			t.Fatalf("%d: %v, and then %v", seed, second, third)
		}
	}
	f := trials.Fn("Nil Return")
	f.Caps, f.Consts, f.Handlers = []api.Cap{}, []api.Const{}, []api.Handler{}
	want(t, api.Program{f}, 1, 0, api.Outcome{End: api.EndDone})
}
