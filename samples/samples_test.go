package samples_test

import (
	"testing"

	"gearbox/api"
	"gearbox/gen"
	"gearbox/samples"
)

// What is made is of use as long as nearly all of it has code, with all instructions that there are.
func TestText(t *testing.T) {
	const seeds = 1000
	ops := map[api.Op]int{}
	code := 0
	for seed := range seeds {
		s := samples.Text(seed)
		if s != samples.Text(seed) {
			t.Fatalf("%d hangs on more than the seed", seed)
		}
		p, line, e := gen.Of(s)
		if e != api.OK && e != api.ErrLimit {
			t.Fatalf("%d: %d in line %d: %s", seed, e, line, s)
		}
		if e == api.OK {
			code++
		}
		for _, f := range p {
			for _, i := range f.Code {
				ops[i.Op]++
			}
		}
	}
	if code < seeds*9/10 || len(ops) != int(api.OpPrint) || ops[api.OpNone] > 0 {
		t.Errorf("%d with code, %v", code, ops)
	}
}
