package samples_test

import (
	"reflect"
	"testing"

	"gearbox/api"
	"gearbox/gen"
	"gearbox/reg"
	"gearbox/samples"
	"gearbox/verify"
)

// What is made is of use as long as nearly all of it has code, with all instructions that there are.
func TestText(t *testing.T) {
	const seeds = 1000
	ops := map[api.Op]int{}
	code := 0
	for seed := range seeds {
		s := samples.Text(seed)
		if s != samples.Text(seed) {
			t.Fatalf("%d hangs on more than the seed", seed)
		}
		p, line, e := gen.Of(s)
		if e != api.OK && e != api.ErrLimit {
			t.Fatalf("%d: %d in line %d: %s", seed, e, line, s)
		}
		if e == api.OK {
			code++
		}
		for _, f := range p {
			for _, i := range f.Code {
				ops[i.Op]++
			}
		}
	}
	if code < seeds*9/10 || len(ops) != int(api.OpPrint) || ops[api.OpNone] > 0 {
		t.Errorf("%d with code, %v", code, ops)
	}
}

func TestCode(t *testing.T) {
	const seeds = 3000
	ops := map[api.Op]int{}
	keeps, caps := 0, 0
	for seed := range seeds {
		p := samples.Code(seed)
		if !reflect.DeepEqual(p, samples.Code(seed)) {
			t.Fatalf("%d hangs on more than the seed", seed)
		}
		if n, pc, e := verify.Check(p); e != api.OK {
			t.Fatalf("%d: %d at %d, %d: %v", seed, e, n, pc, p[n])
		}
		for _, f := range p {
			for _, i := range f.Code {
				ops[i.Op]++
			}
			for _, h := range f.Handlers {
				keeps += min(1, h.Deep)
			}
			caps += len(f.Caps)
		}
	}
	if len(ops) != int(api.OpPrint) || ops[api.OpNone] > 0 || keeps < seeds || caps < seeds {
		t.Errorf("%v, %d that keep values, %d caps", ops, keeps, caps)
	}
	t.Log(ops, keeps, caps)
}

// Code of registers may be the function's that it is of, with all instructions that there are.
func TestRegs(t *testing.T) {
	makes := map[string]func(d *samples.Dice, p api.Program, fn int, depths []int) api.RegFn{
		"turns": func(_ *samples.Dice, p api.Program, fn int, depths []int) api.RegFn {
			return samples.Turns(p, fn, depths)
		},
		"detours": samples.Detours,
		"any":     samples.Regs,
	}
	for name, make := range makes {
		ops, exits := map[api.RegOp]int{}, 0
		for seed := range 2000 {
			p, d := samples.Code(seed), samples.Dice(seed)
			for fn := range p {
				depths, _ := verify.Depths(p, fn)
				again := d
				c := make(&d, p, fn, depths)
				if !reflect.DeepEqual(c, make(&again, p, fn, depths)) {
					t.Fatalf("%s, %d hangs on more than the seed", name, seed)
				}
				if e := reg.Check(p, fn, c); e != api.OK {
					t.Fatalf("%s, %d: %d: %v", name, seed, e, c)
				}
				for _, i := range c.Code {
					ops[i.Op]++
				}
				exits += len(c.Exits)
			}
		}
		want := int(api.RPrint)
		if name == "turns" {
			want -= 2 // it has no RIntBin, no RGuard
		}
		if len(ops) != want || exits < 1000 {
			t.Error(name, ops, exits)
		}
	}
}

// Ways lead everywhere: to the next part twice, to and fro past others, over handlers alone, by loops alone.
func TestWays(t *testing.T) {
	const seeds = 3000
	met := map[string]int{}
	for seed := range seeds {
		p := samples.Ways(seed)
		if !reflect.DeepEqual(p, samples.Ways(seed)) {
			t.Fatalf("%d hangs on more than the seed", seed)
		}
		if _, pc, e := verify.Check(p); e != api.OK {
			t.Fatalf("%d: %d at %d: %v", seed, e, pc, p[0])
		}
		depths, _ := verify.Depths(p, 0)
		ahead := map[int]int{}
		for pc, i := range p[0].Code {
			if depths[pc] < 0 {
				met["not come to"]++
				continue
			}
			switch i.Op {
			case api.OpReturn, api.OpThrow:
				continue
			case api.OpLoop:
				met["loops"]++
				continue
			case api.OpUnless:
				if i.A == pc+1 {
					met["twice to the next one"]++
				}
				ahead[i.A]++
			case api.OpJump:
				ahead[i.A]++
				continue
			}
			ahead[pc+1]++
		}
		for pc, n := range ahead {
			if n > 1 && depths[pc] > 0 {
				met["meets with values on the stack"]++
			}
		}
		met["handlers"] += len(p[0].Handlers)
	}
	for _, s := range []string{"not come to", "twice to the next one", "loops", "meets with values on the stack", "handlers"} {
		if met[s] < 300 {
			t.Error(s, met[s])
		}
	}
}
