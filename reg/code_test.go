package reg_test

import (
	"fmt"
	"maps"
	"reflect"
	"slices"
	"testing"

	"gearbox/api"
	"gearbox/gen"
	"gearbox/listing"
	"gearbox/reg"
	"gearbox/samples"
	"gearbox/trials"
	"gearbox/verify"
	"gearbox/world"
)

// plenty of room and fuel, where they are not what is asked for.
const plenty = 10000

// of: the code of a text.
func of(t *testing.T, s string) api.Program {
	t.Helper()
	p, line, e := gen.Of(s)
	if e != api.OK {
		t.Fatalf("%s: %d in line %d", s, e, line)
	}
	return p
}

// brief: a program, codes, or an outcome, and not too much of it.
func brief(x any) string {
	switch x := x.(type) {
	case api.Program:
		text, _ := listing.Text(x)
		return fmt.Sprintf("%.1500s", text)
	case map[int]api.RegFn:
		s := ""
		for _, fn := range slices.Sorted(maps.Keys(x)) {
			s += fmt.Sprintf("code of %d: %s", fn, brief(x[fn]))
		}
		return s
	case api.RegFn:
		s := fmt.Sprintf("regs %d\n", x.Regs)
		for at, i := range x.Code {
			s += fmt.Sprintf("%d: %s >%d %v n%d k%d x%d\n", at, trials.RegWords()[i.Op], i.To, i.Args, i.N, i.Kind, i.Exit)
		}
		return fmt.Sprintf("%.2500s\nexits %.1000s\nentries %.500s\n", s, fmt.Sprint(x.Exits), fmt.Sprint(x.Entries))
	}
	return fmt.Sprintf("%.500s", fmt.Sprintf("%+v", x))
}

func same(a, b api.Outcome) bool { return trials.Alike(a, b) }

// run: of what may be.
func run(t *testing.T, p api.Program, codes map[int]api.RegFn, room, fuel int) api.Outcome {
	t.Helper()
	o, e := reg.Run(p, codes, room, fuel)
	if e != api.OK {
		t.Fatalf("%s%s: %d", brief(p), brief(codes), e)
	}
	return o
}

// wantError: no outcome.
func wantError(t *testing.T, p api.Program, codes map[int]api.RegFn, room, fuel int, w api.Errno) {
	t.Helper()
	if o, e := reg.Run(p, codes, room, fuel); e != w || !reflect.DeepEqual(o, api.Outcome{}) {
		t.Errorf("%s%s, room %d, fuel %d: %v, %d, want %d", brief(p), brief(codes), room, fuel, o, e, w)
	}
}

// alike: a run is what the chapter tells.
func alike(t *testing.T, p api.Program, codes map[int]api.RegFn, room, fuel int, m world.Met) api.Outcome {
	t.Helper()
	o, e := reg.Run(p, codes, room, fuel)
	w := world.World{Program: p, Codes: codes, Room: room, Fuel: fuel, Met: m}
	if want := w.Tells(); e != api.OK || !same(o, want) {
		t.Fatalf("%s%s, room %d, fuel %d:\n%v, %d, want\n%v", brief(p), brief(codes), room, fuel, o, e, want)
	}
	return o
}

// making makes code of registers of a function whose depths are told.
type making func(d *samples.Dice, p api.Program, fn int, depths []int) api.RegFn

// codesOf: of each function of a program that is picked.
func codesOf(t *testing.T, d *samples.Dice, p api.Program, makes making, picked func(fn int) bool) map[int]api.RegFn {
	t.Helper()
	codes := map[int]api.RegFn{}
	for fn := range p {
		if !picked(fn) {
			continue
		}
		depths, e := verify.Depths(p, fn)
		if e != api.OK {
			t.Fatalf("%s: %d", brief(p), e)
		}
		codes[fn] = makes(d, p, fn, depths)
	}
	return codes
}

func all(int) bool { return true }

// turns: code that does each thing in its turn.
func turns(_ *samples.Dice, p api.Program, fn int, depths []int) api.RegFn {
	return samples.Turns(p, fn, depths)
}

// enough: was each of these met?
func enough(t *testing.T, m world.Met, least int, what ...string) {
	t.Helper()
	for _, s := range what {
		if m[s] < least {
			t.Errorf("%s: %d", s, m[s])
		}
	}
}
