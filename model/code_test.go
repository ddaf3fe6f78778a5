package model_test

import (
	"fmt"
	"reflect"
	"slices"
	"strings"
	"testing"

	"gearbox/api"
	"gearbox/gen"
	"gearbox/model"
	"gearbox/trials"
	"gearbox/verify"
)

var words = trials.Words()

func word(op api.Op) string { return words[op] }

// of: the code of a text.
func of(t *testing.T, s string) api.Program {
	t.Helper()
	p, line, e := gen.Of(s)
	if e != api.OK {
		t.Fatalf("%s: %d in line %d", s, e, line)
	}
	return p
}

// brief: a program, and not too much of it.
func brief(p api.Program) string {
	var l []string
	for _, f := range p {
		l = append(l, fmt.Sprintf("{params %d locals %d caps %v consts %.100s handlers %v", f.Params, f.Locals, f.Caps, fmt.Sprint(f.Consts), f.Handlers))
		for pc, i := range f.Code {
			l = append(l, fmt.Sprintf("%d:%s", pc, words[i.Op]))
			if i.A != 0 {
				l = append(l, fmt.Sprint(i.A))
			}
		}
		l = append(l, "}")
	}
	return fmt.Sprintf("%.2500s", strings.Join(l, " "))
}

// told: an outcome, and not too much of it.
func told(o api.Outcome) string { return fmt.Sprintf("%.500s", fmt.Sprintf("%+v", o)) }

func same(a, b api.Outcome) bool { return trials.Alike(a, b) }

// run: of a program that may be.
func run(t *testing.T, p api.Program, room, fuel int) api.Outcome {
	t.Helper()
	o, e := model.Run(p, room, fuel)
	if e != api.OK {
		n, pc, _ := verify.Check(p)
		t.Fatalf("%s: %d, at %d, %d", brief(p), e, n, pc)
	}
	return o
}

func want(t *testing.T, p api.Program, room, fuel int, w api.Outcome) {
	t.Helper()
	if o := run(t, p, room, fuel); !same(o, w) {
		t.Errorf("%s, room %d, fuel %d:\n%s, want\n%s", brief(p), room, fuel, told(o), told(w))
	}
}

// plenty of room and fuel, where they are not what is asked for.
const plenty = 10000

// copyOf: a program in other memory.
func copyOf(p api.Program) api.Program {
	q := slices.Clone(p)
	for i, f := range q {
		q[i].Caps, q[i].Consts, q[i].Code, q[i].Lines, q[i].Handlers = slices.Clone(f.Caps), slices.Clone(f.Consts), slices.Clone(f.Code), slices.Clone(f.Lines), slices.Clone(f.Handlers)
	}
	return q
}

// wantError: no outcome.
func wantError(t *testing.T, p api.Program, room, fuel int, w api.Errno) {
	t.Helper()
	if o, e := model.Run(p, room, fuel); e != w || !reflect.DeepEqual(o, api.Outcome{}) {
		t.Errorf("%s, room %d, fuel %d: %v, %d, want %d", brief(p), room, fuel, o, e, w)
	}
}
