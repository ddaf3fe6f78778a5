package samples_test

import (
	"reflect"
	"testing"

	"gearbox/api"
	"gearbox/gen"
	"gearbox/samples"
	"gearbox/verify"
)

// What is made is of use as long as nearly all of it has code, with all instructions that there are.
func TestText(t *testing.T) {
	const seeds = 1000
	ops := map[api.Op]int{}
	code := 0
	for seed := range seeds {
		s := samples.Text(seed)
		if s != samples.Text(seed) {
			t.Fatalf("%d hangs on more than the seed", seed)
		}
		p, line, e := gen.Of(s)
		if e != api.OK && e != api.ErrLimit {
			t.Fatalf("%d: %d in line %d: %s", seed, e, line, s)
		}
		if e == api.OK {
			code++
		}
		for _, f := range p {
			for _, i := range f.Code {
				ops[i.Op]++
			}
		}
	}
	if code < seeds*9/10 || len(ops) != int(api.OpPrint) || ops[api.OpNone] > 0 {
		t.Errorf("%d with code, %v", code, ops)
	}
}

func TestCode(t *testing.T) {
	const seeds = 3000
	ops := map[api.Op]int{}
	keeps, caps := 0, 0
	for seed := range seeds {
		p := samples.Code(seed)
		if !reflect.DeepEqual(p, samples.Code(seed)) {
			t.Fatalf("%d hangs on more than the seed", seed)
		}
		if n, pc, e := verify.Check(p); e != api.OK {
			t.Fatalf("%d: %d at %d, %d: %v", seed, e, n, pc, p[n])
		}
		for _, f := range p {
			for _, i := range f.Code {
				ops[i.Op]++
			}
			for _, h := range f.Handlers {
				keeps += min(1, h.Deep)
			}
			caps += len(f.Caps)
		}
	}
	if len(ops) != int(api.OpPrint) || ops[api.OpNone] > 0 || keeps < seeds || caps < seeds {
		t.Errorf("%v, %d that keep values, %d caps", ops, keeps, caps)
	}
	t.Log(ops, keeps, caps)
}
