package registers_test

import (
	"slices"
	"testing"

	"gearbox/api"
	"gearbox/gen"
	"gearbox/heaped"
	"gearbox/machine"
	"gearbox/model"
	"gearbox/registers"
	"gearbox/samples"
	"gearbox/space"
	"gearbox/trials"
	"gearbox/verify"
	"gearbox/world"
)

type making func(d *samples.Dice, p api.Program, fn int, depths []int) api.RegFn

func codesOf(t *testing.T, d *samples.Dice, p api.Program, makes making) map[int]api.RegFn {
	t.Helper()
	codes := map[int]api.RegFn{}
	for fn := range p {
		depths, e := verify.Depths(p, fn)
		if e != api.OK {
			t.Fatal(e)
		}
		if d.Below(5) > 0 {
			codes[fn] = makes(d, p, fn, depths)
		}
	}
	return codes
}

// run: a program on a ground; collected at each point or not.
func run(p api.Program, codes map[int]api.RegFn, g machine.Ground, fuel int, collects bool) api.Outcome {
	m := machine.New(p, g, fuel)
	m.Begins(func(fn int, by api.Val, args []api.Val) machine.Frame {
		c, is := codes[fn]
		at := slices.IndexFunc(c.Entries, func(e api.Entry) bool { return e.Pc == 0 })
		if !is || at < 0 {
			return machine.StackOf(&p[fn], by, args)
		}
		return registers.NewCode(p, fn, c).Enter(c.Entries[at], by, args)
	})
	if collects {
		m.AtPoint(m.Collect)
	}
	return m.Run()
}

func same(a, b api.Outcome) bool { return trials.Alike(a, b) }

// Code that does each thing in its turn comes to what model says, on each ground, collected or not: what was moved is found again, also by registers that no exit tells.
func TestGrounds(t *testing.T) {
	t.Parallel()
	for seed := range 2500 {
		p, d := samples.Code(seed), samples.Dice(seed)
		if seed%3 == 0 {
			var e api.Errno
			if p, _, e = gen.Of(samples.Text(seed)); e != api.OK {
				continue
			}
		}
		codes := codesOf(t, &d, p, samples.Detours)
		fuel := d.Below(30)
		for _, room := range []int{1 + d.Below(20), 1 + d.Below(100), 5000} {
			want, _ := model.Run(p, room, fuel)
			for _, collects := range []bool{false, true} {
				for _, g := range []machine.Ground{space.New(room), heaped.New(room)} {
					if o := run(p, codes, g, fuel, collects); !same(o, want) {
						t.Fatalf("%d, room %d, fuel %d, %T, %v: %v, want %v", seed, room, fuel, g, collects, o, want)
					}
				}
			}
		}
	}
}

// Code of any form comes to what the chapter tells, in plain values, collected at its points or not.
func TestAny(t *testing.T) {
	t.Parallel()
	for seed := range 1500 {
		p, d := samples.Code(seed), samples.Dice(seed)
		codes := codesOf(t, &d, p, samples.Regs)
		room, fuel := 1+d.Below(60), d.Below(20)
		w := world.World{Program: p, Codes: codes, Room: room, Fuel: fuel}
		want := w.Tells()
		for _, collects := range []bool{false, true} {
			if o := run(p, codes, space.New(room), fuel, collects); !same(o, want) {
				t.Fatalf("%d, room %d, fuel %d, %v: %v, want %v", seed, room, fuel, collects, o, want)
			}
		}
	}
}
