package base_test

import (
	"slices"
	"strconv"
	"strings"
	"testing"

	"gearbox/api"
	"gearbox/base"
	"gearbox/gen"
	"gearbox/samples"
	"gearbox/trials"
	"gearbox/verify"
)

// table: the chapter's, a line for each row that makes something: the instruction, what is made: its name, >To, the args (a .. b: all from a to b), N (n=; n@: the place at(A)), a Kind, x if it has an exit.
const table = `
Const: Const >T n=A x
Nil: Value >T n=0 Nil
Yes: Value >T n=1 Bool
No: Value >T n=0 Bool
Load: Move >T A
Dup: Move >T T-1
Store: Move >A T-1
Cell: Cell >A A x
CellLoad: CellLoad >T A x
CellStore: CellStore A T-1 x
Up: Up >T n=A
UpStore: UpStore T-1 n=A x
Bin: Bin >T-2 T-2 T-1 n=A x
Not: Not >T-1 T-1 x
Neg: Neg >T-1 T-1 x
Len: Len >T-1 T-1 x
Show: Show >T-1 T-1 x
Jump: Jump n@
Unless: Unless T-1 n@ x
Loop: Loop n@ x
List: List >T-A T-A..T-1 x
Map: Map >T-2A T-2A..T-1 x
Get: Get >T-2 T-2 T-1 x
Put: Put T-3 T-2 T-1 x
Fn: Fn >T n=A cells x
Call: Call >T-A-1 T-A-1..T-1 x
Return: Return T-1
Throw: Throw T-1 x
Print: Print T-1 x
`

// teller tells what the chapter asks for, with the table as text.
type teller struct {
	p      api.Program
	f      api.Fn
	depths []int
	lines  map[api.Op][]string // the words of each row
}

func newTeller(p api.Program, fn int) teller {
	w := teller{p: p, f: p[fn], lines: map[api.Op][]string{}}
	w.depths, _ = verify.Depths(p, fn)
	for _, line := range trials.Between(table, "\n") {
		name, made, _ := strings.Cut(line, ": ")
		w.lines[api.Op(slices.Index(trials.Words(), name))] = strings.Fields(made)
	}
	return w
}

// makes: is an instruction made for a place?
func (w teller) makes(pc int) bool { return w.depths[pc] != -1 && w.lines[w.f.Code[pc].Op] != nil }

// at: counted anew each time.
func (w teller) at(pc int) int {
	n := 0
	for ahead := range pc {
		if w.makes(ahead) {
			n++
		}
	}
	return n
}

// number: T, A and what is taken off, as T-A-1.
func number(s string, t, a int) int {
	sum, sign := 0, 1
	for _, part := range strings.Split(s, "-") {
		switch part {
		case "T":
			sum += sign * t
		case "A":
			sum += sign * a
		case "2A":
			sum += sign * 2 * a
		default:
			n, err := strconv.Atoi(part)
			if err != nil {
				panic(s)
			}
			sum += sign * n
		}
		sign = -1
	}
	return sum
}

// ins: what is made for a place; its exit, if it has one, is this one.
func (w teller) ins(pc, exit int) api.RegIns {
	t, a := w.f.Locals+w.depths[pc], w.f.Code[pc].A
	words := w.lines[w.f.Code[pc].Op]
	i := trials.RegIns(words[0])
	for _, word := range words[1:] {
		first, last, is := strings.Cut(word, "..")
		switch {
		case is:
			for r := number(first, t, a); r <= number(last, t, a); r++ {
				i.Args = append(i.Args, r)
			}
		case word == "x":
			i.Exit = exit
		case word == "n@":
			i.N = int64(w.at(a))
		case word == "cells":
			for _, c := range w.p[a].Caps {
				if !c.Up {
					i.Args = append(i.Args, c.N)
				}
			}
		case word == "Nil" || word == "Bool":
			i.Kind = trials.RegIns("Value " + word).Kind
		case strings.HasPrefix(word, "n="):
			i.N = int64(number(word[2:], t, a))
		case word[0] == '>':
			i.To = number(word[1:], t, a)
		default:
			i.Args = append(i.Args, number(word, t, a))
		}
	}
	return i
}

// tells: the code.
func (w teller) tells() api.RegFn {
	c := api.RegFn{Regs: w.f.Locals + slices.Max(w.depths)}
	for pc := range w.f.Code {
		if !w.makes(pc) {
			continue
		}
		i := w.ins(pc, len(c.Exits))
		if i.Exit != -1 {
			c.Exits = append(c.Exits, api.Exit{Pc: pc, Slots: registers(w.f.Locals+w.depths[pc], func(r int) api.Loc { return api.Loc{Reg: r} })})
		}
		c.Code = append(c.Code, i)
	}
	for pc := range w.f.Code {
		begins := func(i int) bool {
			return w.depths[i] != -1 && w.f.Code[i] == api.Ins{Op: api.OpLoop, A: pc}
		}
		if pc == 0 || slices.ContainsFunc(registers(len(w.f.Code), func(i int) int { return i }), begins) {
			c.Entries = append(c.Entries, api.Entry{Pc: pc, At: w.at(pc), Slots: registers(w.f.Locals+w.depths[pc], func(r int) int { return r })})
		}
	}
	return c
}

func registers[T any](n int, as func(r int) T) []T {
	var l []T
	for r := range n {
		l = append(l, as(r))
	}
	return l
}

// alike: each function's code is as the chapter tells it.
func alike(t *testing.T, p api.Program) {
	t.Helper()
	for fn := range p {
		want(t, p, fn, newTeller(p, fn).tells())
		if t.Failed() {
			t.FailNow()
		}
	}
}

// P15.1: code of every form, against the chapter's table.
func TestCodeAlike(t *testing.T) {
	t.Parallel()
	met := map[api.RegOp]int{}
	for seed := range 3000 {
		p := samples.Code(seed)
		alike(t, p)
		for fn := range p {
			for _, i := range code(t, p, fn).Code {
				met[i.Op]++
			}
		}
	}
	delete(met, api.RIntBin)
	for op := api.RConst; op <= api.RPrint; op++ {
		if met[op] < 300 && op != api.RIntBin && op != api.RGuard {
			t.Error(trials.RegWords()[op], met[op])
		}
	}
}

// P15.1: code of texts, against the chapter's table.
func TestTextsAlike(t *testing.T) {
	t.Parallel()
	n := 0
	for seed := range 800 {
		if p, _, e := gen.Of(samples.Text(seed)); e == api.OK {
			alike(t, p)
			n++
		}
	}
	if n < 700 {
		t.Error(n)
	}
}

// P15.1: what every machine is tried with, against the chapter's table; it is what tests of later layers take for such code, too.
func TestTrialsAlike(t *testing.T) {
	t.Parallel()
	for _, trial := range trials.All() {
		if len(trial.Program[0].Code) < 2000 {
			alike(t, trial.Program)
		}
		for fn := range trial.Program {
			depths, _ := verify.Depths(trial.Program, fn)
			want(t, trial.Program, fn, samples.Turns(trial.Program, fn, depths))
		}
	}
}

// P15.1: programs of which something is another one: the error of verify.Check, or code as the chapter tells it.
func TestSpoilt(t *testing.T) {
	t.Parallel()
	right, wrong := 0, 0
	for seed := range 4000 {
		p, d := samples.Code(seed), samples.Dice(seed)
		samples.Spoil(&d, p)
		_, _, e := verify.Check(p)
		if e == api.OK {
			right++
			alike(t, p)
			continue
		}
		wrong++
		for fn := range p {
			if c, got := base.Code(p, fn); got != e || !same(c, api.RegFn{}) {
				t.Fatalf("%d, %d: %d, want %d", seed, fn, got, e)
			}
		}
	}
	if right < 500 || wrong < 1000 {
		t.Error(right, wrong)
	}
}
