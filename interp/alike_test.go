package interp_test

import (
	"testing"

	"gearbox/api"
	"gearbox/gen"
	"gearbox/model"
	"gearbox/samples"
	"gearbox/trials"
)

// rooms: any, and the least one with which the run does not end for want of it, and one less.
func rooms(d *samples.Dice, p api.Program, fuel int) []int {
	return trials.Rooms(d.Below, func(room int) api.EndKind {
		o, _ := model.Run(p, room, fuel)
		return o.End
	})
}

// P13.1, P13.2, P0.1: code of every form, with acts of every form.
func TestCodeAlike(t *testing.T) {
	t.Parallel()
	ends := map[api.EndKind]int{}
	for seed := range 4000 {
		p, d := samples.Code(seed), samples.Dice(seed)
		fuel := d.Below(30)
		if seed%20 == 0 {
			fuel = 400
		}
		for _, room := range rooms(&d, p, fuel) {
			ends[alike(t, p, room, fuel, nil, every(fuel), some(&d, d.Below(fuel+9))).End]++
		}
	}
	for end := api.EndDone; end <= api.EndRoom; end++ {
		if ends[end] < 500 {
			t.Error(end, ends[end])
		}
	}
}

// P13.1, P13.2, P0.1: code of texts, likewise.
func TestTextsAlike(t *testing.T) {
	t.Parallel()
	for seed := range 3000 {
		p, _, e := gen.Of(samples.Text(seed))
		if e != api.OK {
			continue
		}
		d := samples.Dice(seed)
		fuel := d.Below(30)
		for _, room := range rooms(&d, p, fuel) {
			alike(t, p, room, fuel, nil, every(fuel), some(&d, d.Below(fuel+9)))
		}
	}
}
