package model_test

import (
	"slices"
	"testing"

	"gearbox/api"
	"gearbox/gen"
	"gearbox/samples"
)

// begins: is the first one a beginning of the second one?
func begins(a, b []string) bool { return len(a) <= len(b) && slices.Equal(a, b[:len(a)]) }

// sound: is an outcome one that there can be?
func sound(o api.Outcome, room, fuel int) bool {
	switch o.End {
	case api.EndDone:
		return o.Value == "" && o.Words == 0 && o.Fuel <= fuel
	case api.EndThrown:
		return o.Words <= room && o.Fuel <= fuel
	case api.EndFuel:
		return o.Value == "" && o.Words <= room && o.Fuel == 0
	case api.EndRoom:
		return o.Value == "" && o.Words <= room && o.Fuel <= fuel
	}
	return false
}

// wantMore: with more fuel, and with more room, a run prints on from what it printed; one that was done or thrown is so.
func wantMore(t *testing.T, p api.Program, rooms, fuels []int) {
	t.Helper()
	all := map[[2]int]api.Outcome{}
	for _, room := range rooms {
		for _, fuel := range fuels {
			o := run(t, p, room, fuel)
			if all[[2]int{room, fuel}] = o; !sound(o, room, fuel) {
				t.Fatalf("%s, room %d, fuel %d: %v", brief(p), room, fuel, o)
			}
		}
	}
	for at, o := range all {
		for more, w := range all {
			switch {
			case at[0] == more[0] && at[1] < more[1]:
				w.Fuel -= more[1] - at[1]
				if o.End == api.EndFuel || same(o, w) {
					break
				}
				t.Fatalf("%s, at %v and %v: %v, %v", brief(p), at, more, o, w)
			case at[0] < more[0] && at[1] == more[1] && o.End != api.EndRoom && !same(o, w):
				t.Fatalf("%s, at %v and %v: %v, %v", brief(p), at, more, o, w)
			}
			if at[0] <= more[0] && at[1] <= more[1] && !begins(o.Out, w.Out) {
				t.Fatalf("%s, at %v and %v: %v, %v", brief(p), at, more, o, w)
			}
		}
	}
}

// P12.2, P0.2, P0.4.
func TestMore(t *testing.T) {
	t.Parallel()
	rooms, fuels := []int{1, 3, 8, 12, 20, 21, 40, 100, 1000}, []int{0, 1, 2, 5, 13, 14, 60}
	for seed := range 1500 {
		wantMore(t, samples.Code(seed), rooms, fuels)
	}
	for seed := range 500 {
		if p, _, e := gen.Of(samples.Text(seed)); e == api.OK {
			wantMore(t, p, rooms, fuels)
		}
	}
	wantMore(t, of(t, `var l = []; var i = 0; while yes { print i; l[i] = [i]; i = i + 1; }`), []int{1, 3, 30, 31, 99, 1000, api.MaxWords}, []int{0, 1, 2, 10, 11, 100, 1000})
	wantMore(t, of(t, `var f = fn(n) { print n; return f([n]); }; f(nil);`), []int{1, 12, 30, 31, 99, 1000, api.MaxWords}, []int{0, 1, 2, 10, 11, 100, 1000})
}
