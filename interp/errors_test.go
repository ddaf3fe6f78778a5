package interp_test

import (
	"math"
	"slices"
	"testing"

	"gearbox/api"
	"gearbox/interp"
	"gearbox/samples"
	"gearbox/trials"
	"gearbox/verify"
)

func wantError(t *testing.T, p api.Program, room, fuel int, w api.Errno) {
	t.Helper()
	for _, acts := range [][]api.ActKind{nil, every(3), {9}} {
		o, e := interp.Run(p, room, fuel, acts)
		if e != w || !same(o, api.Outcome{}) {
			t.Errorf("%s, room %d, fuel %d: %v, %d, want %d", brief(p), room, fuel, o, e, w)
		}
	}
}

// P13.1: room and fuel outside their bounds; those are told ahead of code that may not be.
func TestArgs(t *testing.T) {
	right, wrong := of(t, "print 1;"), api.Program{trials.Fn("Nil")}
	for _, p := range []api.Program{right, wrong, nil, {}} {
		for _, bad := range []int{0, -1, api.MaxWords + 1, math.MinInt, math.MaxInt} {
			wantError(t, p, bad, 0, api.ErrArg)
			wantError(t, p, bad, -1, api.ErrArg)
			wantError(t, p, bad, api.MaxFuel, api.ErrArg)
		}
		for _, bad := range []int{-1, api.MaxFuel + 1, math.MinInt, math.MaxInt} {
			wantError(t, p, 1, bad, api.ErrArg)
			wantError(t, p, api.MaxWords, bad, api.ErrArg)
		}
	}
	for _, room := range []int{1, api.MaxWords} {
		for _, fuel := range []int{0, api.MaxFuel} {
			if o := run(t, right, room, fuel, every(2)); !same(o, api.Outcome{End: api.EndDone, Out: []string{"1"}, Fuel: fuel}) {
				t.Error(room, fuel, o)
			}
			for _, p := range []api.Program{wrong, nil, {}, make(api.Program, api.MaxFns+1)} {
				wantError(t, p, room, fuel, api.ErrForm)
			}
		}
	}
}

// copyOf: a program in other memory.
func copyOf(p api.Program) api.Program {
	q := slices.Clone(p)
	for i, f := range q {
		q[i].Caps, q[i].Consts, q[i].Code, q[i].Lines, q[i].Handlers = slices.Clone(f.Caps), slices.Clone(f.Consts), slices.Clone(f.Code), slices.Clone(f.Lines), slices.Clone(f.Handlers)
	}
	return q
}

// spoil: something of a program is changed.
func spoil(d *samples.Dice, p api.Program) {
	f := &p[d.Below(len(p))]
	i := &f.Code[d.Below(len(f.Code))]
	switch d.Below(6) {
	case 0:
		i.Op = api.Op(d.Below(33))
	case 1:
		i.A += d.Below(5) - 2
	case 2:
		*i = f.Code[d.Below(len(f.Code))]
	case 3:
		f.Locals += d.Below(3) - 1
	case 4:
		if len(f.Handlers) > 0 {
			h := &f.Handlers[d.Below(len(f.Handlers))]
			*[]*int{&h.From, &h.To, &h.At, &h.Deep}[d.Below(4)] += d.Below(3) - 1
		}
	case 5:
		f.Caps = append(f.Caps, api.Cap{Up: d.Below(2) == 0, N: d.Below(3)})
	}
}

// P13.1, R1: code with something of it changed: the error of verify.Check, or a run that is model's.
func TestSpoilt(t *testing.T) {
	wrong, right := 0, 0
	for seed := range 3000 {
		d := samples.Dice(seed)
		p := copyOf(samples.Code(seed))
		spoil(&d, p)
		if _, _, e := verify.Check(p); e != api.OK {
			wantError(t, p, 100, 10, e)
			wrong++
			continue
		}
		alike(t, p, 1+d.Below(100), d.Below(20), nil, some(&d, 20))
		right++
	}
	if wrong < 500 || right < 500 {
		t.Errorf("%d wrong, %d right", wrong, right)
	}
}

// R4, R5: what is handed in stays as it is, and is not part of what is answered; empty and nil mean the same; one run knows nothing of another.
func TestHandedIn(t *testing.T) {
	for seed := range 300 {
		p := samples.Code(seed)
		q := copyOf(p)
		first := run(t, q, 500, 50, every(9))
		for i := range p {
			if !slices.Equal(p[i].Code, q[i].Code) || !slices.Equal(p[i].Consts, q[i].Consts) || !slices.Equal(p[i].Caps, q[i].Caps) || !slices.Equal(p[i].Handlers, q[i].Handlers) || !slices.Equal(p[i].Lines, q[i].Lines) {
				t.Fatalf("%d: the program was changed", seed)
			}
		}
		second := run(t, q, 500, 50, every(9))
		clear(first.Out[:cap(first.Out)])
		if third := run(t, q, 500, 50, nil); !same(second, third) {
			t.Fatalf("%d: %v, and then %v", seed, second, third)
		}
	}
	f := trials.Fn("Nil Return")
	f.Caps, f.Consts, f.Handlers = []api.Cap{}, []api.Const{}, []api.Handler{}
	if o := run(t, api.Program{f}, 1, 0, nil); !same(o, api.Outcome{End: api.EndDone}) {
		t.Error(o)
	}
}
