package build_test

import (
	"slices"
	"strings"
	"testing"

	"gearbox/api"
	"gearbox/build"
	"gearbox/samples"
	"gearbox/trials"
)

// table: of each instruction that something is made for, as words: its name, that of the node or the end, how many values it takes from the stack, whether it is of a local, what N is, whether it has a state.
const table = `
Nil NoValue 0
Yes NoValue 0
No NoValue 0
Cell NoCell 0 local state
CellLoad NoCellLoad 0 local state
CellStore NoCellStore 1 local state
Up NoUp 0 n
UpStore NoUpStore 1 n state
Bin NoBin 2 n state
Not NoNot 1 state
Neg NoNeg 1 state
Len NoLen 1 state
Show NoShow 1 state
Unless BkUnless 1 state
Loop BkLoop 0 state
List NoList A state
Map NoMap 2A state
Get NoGet 2 state
Put NoPut 3 state
Fn NoFn cells n state
Call NoCall A+1 state
Return BkReturn 1
Throw BkThrow 1 state
Print NoPrint 1 state
`

// rowOf: the words of each instruction's line.
var rowOf = func() map[string][]string {
	m := map[string][]string{}
	for _, line := range trials.Between(table, "\n") {
		l := strings.Fields(line)
		m[l[0]] = l[1:]
	}
	return m
}()

// reader holds a graph against the code of its function.
type reader struct {
	p      api.Program
	f      api.Fn
	g      api.Graph
	ints   []int
	made   map[string]int // what was found: the name of a node, or an end, and its place
	values map[string]int // how many nodes without a state there are, by their name
}

// read: tells what is wrong; "": nothing.
func read(p api.Program, fn, pc int, ints []int, g api.Graph) string {
	r := reader{p: p, f: p[fn], g: g, ints: ints, made: map[string]int{}, values: map[string]int{}}
	if g.Fn != fn || g.Pc != pc || g.Slots != r.f.Locals {
		return "of another place"
	}
	for n, x := range g.Nodes {
		if !r.node(x) {
			return "node " + trials.NodeWords()[x.Op] + " " + string(rune('0'+n%10))
		}
	}
	for _, b := range g.Blocks {
		name := trials.EndWords()[b.End]
		if b.State == -1 {
			r.values[name]++
		} else if !r.ends(name, b) {
			return "end " + name
		}
	}
	return r.all()
}

// node: is it what the instruction at its state's place asks for?
func (r *reader) node(x api.Node) bool {
	name := trials.NodeWords()[x.Op]
	if x.State == -1 {
		r.values[name]++
		return x.Op == api.NoSlot || x.Op == api.NoPhi || x.Op == api.NoValue || x.Op == api.NoUp
	}
	s := r.g.States[x.State]
	i := r.f.Code[s.Pc]
	r.made[name]++
	if i.Op == api.OpConst {
		return name == "NoConst" && x.N == int64(i.A) && r.f.Consts[i.A].Kind == api.Text
	}
	row := rowOf[trials.Words()[i.Op]]
	if i.Op == api.OpBin {
		whole := slices.Contains(r.ints, s.Pc) && i.A != int(api.Same) && i.A != int(api.Unlike)
		row = slices.Clone(row)
		row[0] = map[bool]string{true: "NoIntBin", false: "NoBin"}[whole]
	}
	n := int64(0)
	if slices.Contains(row, "n") {
		n = int64(i.A)
	}
	return row[0] == name && slices.Contains(row, "state") && x.N == n && x.Kind == 0 && slices.Equal(x.Args, r.args(i, row, s.Slots))
}

// args: what an instruction takes, of these slots.
func (r *reader) args(i api.Ins, row []string, slots []int) []int {
	var l []int
	if slices.Contains(row, "local") {
		l = append(l, slots[i.A])
	}
	if row[1] == "cells" {
		for _, c := range r.p[i.A].Caps {
			if !c.Up {
				l = append(l, slots[c.N])
			}
		}
		return l
	}
	takes := map[string]int{"0": 0, "1": 1, "2": 2, "3": 3, "A": i.A, "2A": 2 * i.A, "A+1": i.A + 1}[row[1]]
	return append(l, slots[len(slots)-takes:]...)
}

// ends: is it what the instruction at its state's place asks for?
func (r *reader) ends(name string, b api.Block) bool {
	s := r.g.States[b.State]
	i := r.f.Code[s.Pc]
	if i.Op == api.OpLoop && b.End == api.BkThrow { // it may not be led to from ahead
		r.made["falls"]++
		return !led(r.f, r.g.Pc)[i.A]
	}
	r.made[name]++
	row := rowOf[trials.Words()[i.Op]]
	return row[0] == name && slices.Equal(b.Args, r.args(i, row, s.Slots))
}

// led: the places that are come to from one on, by ways that do not go back.
func led(f api.Fn, pc int) []bool {
	l := make([]bool, len(f.Code)+1)
	var come func(pc int)
	come = func(pc int) {
		if l[pc] {
			return
		}
		l[pc] = true
		switch i := f.Code[pc]; i.Op {
		case api.OpReturn, api.OpThrow, api.OpLoop:
		case api.OpJump:
			come(i.A)
		case api.OpUnless:
			come(i.A)
			come(pc + 1)
		default:
			come(pc + 1)
		}
	}
	come(pc)
	return l
}

// all: is there just one node, or end, for each instruction that is led to and asks for one?
func (r *reader) all() string {
	places := map[int]int{}
	for _, s := range r.g.States {
		places[s.Pc]++
	}
	returns, ups := 0, 0
	for pc, is := range led(r.f, r.g.Pc)[:len(r.f.Code)] {
		i := r.f.Code[pc]
		wants := 0
		if row := rowOf[trials.Words()[i.Op]]; is && (slices.Contains(row, "state") || i.Op == api.OpConst && r.f.Consts[i.A].Kind == api.Text) {
			wants = 1
		}
		if places[pc] != wants {
			return "not so many of " + trials.Words()[i.Op]
		}
		if is && i.Op == api.OpReturn {
			returns++
		}
		if is && i.Op == api.OpUp {
			ups++
		}
	}
	if r.values["BkReturn"] != returns || r.values["NoUp"] != ups || r.values["BkThrow"]+r.values["BkLoop"]+r.values["BkUnless"] > 0 {
		return "not so many returns, ups"
	}
	return ""
}

// P17.1: graphs of any function, from any place, whatever ints are, against the chapter.
func TestAny(t *testing.T) {
	t.Parallel()
	met := map[string]int{}
	for seed := range 6000 {
		p, ok := sample(seed)
		if !ok {
			continue
		}
		d := samples.Dice(seed)
		for fn := range p {
			for _, pc := range entries(t, p, fn) {
				ints := picks(&d, p[fn])
				g := graphOf(t, p, fn, pc, ints)
				if wrong := read(p, fn, pc, ints, g); wrong != "" {
					t.Fatalf("%s%d from %d, %v: %s: %s", brief(p), fn, pc, ints, wrong, brief(g))
				}
				r := reader{p: p, f: p[fn], g: g, ints: ints, made: met, values: met}
				for _, x := range g.Nodes {
					r.node(x)
				}
				for _, b := range g.Blocks {
					met["end"]++
					if b.State != -1 {
						r.ends(trials.EndWords()[b.End], b)
					}
				}
				met["from "+map[bool]string{true: "the beginning", false: "a loop"}[pc == 0]]++
			}
		}
	}
	for _, s := range trials.NodeWords()[1:] {
		if s != "NoGuard" && met[s] < 500 {
			t.Error(s, met[s])
		}
	}
	for _, s := range append(trials.EndWords()[2:], "falls", "from the beginning", "from a loop") {
		if s != "BkReturn" && met[s] < 500 {
			t.Error(s, met[s])
		}
	}
}

// P17.1: what every machine is tried with.
func TestTrialsRead(t *testing.T) {
	t.Parallel()
	for _, trial := range trials.All() {
		for fn := range trial.Program {
			for _, ints := range [][]int{nil, places(trial.Program[fn])} {
				g := graphOf(t, trial.Program, fn, 0, ints)
				if wrong := read(trial.Program, fn, 0, ints, g); wrong != "" {
					t.Fatalf("%s: %s%s: %s", trial.Name, brief(trial.Program), brief(g), wrong)
				}
			}
		}
	}
}

// P17.1: from no other place: ErrArg.
func TestPlaces(t *testing.T) {
	t.Parallel()
	for seed := range 1500 {
		p, ok := sample(seed)
		if !ok {
			continue
		}
		for fn := range p {
			l := entries(t, p, fn)
			for pc := -2; pc < len(p[fn].Code)+2; pc++ {
				_, e := build.Graph(p, fn, pc, nil)
				if may := slices.Contains(l, pc); may != (e == api.OK) || !may && e != api.ErrArg {
					t.Fatalf("%s%d from %d: %d, want %v", brief(p), fn, pc, e, may)
				}
			}
		}
	}
}
