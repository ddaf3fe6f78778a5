package interp_test

import (
	"slices"
	"testing"

	"gearbox/api"
	"gearbox/samples"
)

// begins: is the first one a beginning of the second one?
func begins(a, b []string) bool { return len(a) <= len(b) && slices.Equal(a, b[:len(a)]) }

// P0.2, P0.4: each run ends; with more fuel, and with more room, it prints on from what it printed, and one that was done or thrown is so.
func TestMore(t *testing.T) {
	t.Parallel()
	fuels, rooms := []int{0, 1, 2, 5, 13, 60}, []int{1, 3, 8, 12, 20, 21, 40, 100, 1000}
	for seed := range 600 {
		p, d := samples.Code(seed), samples.Dice(seed)
		for _, fuel := range fuels {
			var last api.Outcome
			for i, room := range rooms {
				o := run(t, p, room, fuel, some(&d, fuel))
				if o.End < api.EndDone || o.End > api.EndRoom || o.Words > room {
					t.Fatalf("%s, room %d, fuel %d: %v", brief(p), room, fuel, o)
				}
				if i > 0 && (!begins(last.Out, o.Out) || last.End != api.EndRoom && !same(last, o)) {
					t.Fatalf("%s, room %d, fuel %d: %v, and with less %v", brief(p), room, fuel, o, last)
				}
				last = o
			}
		}
		for _, room := range rooms {
			var last api.Outcome
			for i, fuel := range fuels {
				o := run(t, p, room, fuel, some(&d, fuel))
				if i > 0 {
					last.Fuel += fuel - fuels[i-1]
					if !begins(last.Out, o.Out) || last.End != api.EndFuel && !same(last, o) {
						t.Fatalf("%s, room %d, fuel %d: %v, and with less %v", brief(p), room, fuel, o, last)
					}
				}
				last = o
			}
		}
	}
}
