package base_test

import (
	"fmt"
	"slices"
	"testing"

	"gearbox/api"
	"gearbox/base"
	"gearbox/gen"
	"gearbox/listing"
	"gearbox/trials"
)

// of: the code of a text.
func of(t *testing.T, s string) api.Program {
	t.Helper()
	p, line, e := gen.Of(s)
	if e != api.OK {
		t.Fatalf("%s: %d in line %d", s, e, line)
	}
	return p
}

// brief: a program, or code of registers, and not too much of it.
func brief(x any) string {
	switch x := x.(type) {
	case api.Program:
		text, _ := listing.Text(x)
		return fmt.Sprintf("%.1500s", text)
	case api.RegFn:
		s := fmt.Sprintf("regs %d\n", x.Regs)
		for at, i := range x.Code[:min(60, len(x.Code))] {
			s += fmt.Sprintf("%d: %s >%d %v n%d k%d x%d\n", at, trials.RegWords()[i.Op], i.To, i.Args, i.N, i.Kind, i.Exit)
		}
		return s + fmt.Sprintf("exits %.1000s\nentries %.500s\n", fmt.Sprint(x.Exits), fmt.Sprint(x.Entries))
	}
	return fmt.Sprintf("%.500s", fmt.Sprintf("%+v", x))
}

func sameIns(a, b api.RegIns) bool {
	return a.Op == b.Op && a.To == b.To && slices.Equal(a.Args, b.Args) && a.N == b.N && a.Kind == b.Kind && a.Exit == b.Exit
}

func sameExit(a, b api.Exit) bool { return a.Pc == b.Pc && slices.Equal(a.Slots, b.Slots) }

func sameEntry(a, b api.Entry) bool {
	return a.Pc == b.Pc && a.At == b.At && slices.Equal(a.Slots, b.Slots)
}

// same: is it the same code? Empty and nil are.
func same(a, b api.RegFn) bool {
	return a.Regs == b.Regs && slices.EqualFunc(a.Code, b.Code, sameIns) && slices.EqualFunc(a.Exits, b.Exits, sameExit) && slices.EqualFunc(a.Entries, b.Entries, sameEntry)
}

// code: of a function that has some.
func code(t *testing.T, p api.Program, fn int) api.RegFn {
	t.Helper()
	c, e := base.Code(p, fn)
	if e != api.OK {
		t.Fatalf("%s%d: %d", brief(p), fn, e)
	}
	return c
}

func want(t *testing.T, p api.Program, fn int, w api.RegFn) {
	t.Helper()
	if c := code(t, p, fn); !same(c, w) {
		t.Errorf("%s%d: %s, want %s", brief(p), fn, brief(c), brief(w))
	}
}

// codesOf: of each function of a program that is picked.
func codesOf(t *testing.T, p api.Program, picked func(fn int) bool) map[int]api.RegFn {
	t.Helper()
	codes := map[int]api.RegFn{}
	for fn := range p {
		if picked(fn) {
			codes[fn] = code(t, p, fn)
		}
	}
	return codes
}

func all(int) bool { return true }
