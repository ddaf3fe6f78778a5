package verify_test

import (
	"math"
	"reflect"
	"slices"
	"strconv"
	"strings"
	"testing"
	"unsafe"

	"gearbox/api"
	"gearbox/gen"
	"gearbox/parse"
	"gearbox/samples"
	"gearbox/verify"
)

// follows: what P9.3 says of code that may be.
func follows(t *testing.T, p api.Program) {
	t.Helper()
	wantRight(t, p)
	for n, f := range p {
		l, e := verify.Depths(p, n)
		if e != api.OK || len(l) != len(f.Code) || l[0] != 0 {
			t.Fatalf("Depths(%s, %d) = %v, %d", brief(p), n, l, e)
		}
		for pc, ins := range f.Code {
			if l[pc] < -1 || l[pc] > api.MaxStack {
				t.Fatalf("%s: function %d, place %d: %d deep", brief(p), n, pc, l[pc])
			}
			if l[pc] < 0 {
				continue
			}
			_, takes, leaves, _ := modelRow(p, f, pc)
			after := l[pc] - takes + leaves
			goesOn := !slices.Contains([]api.Op{api.OpJump, api.OpLoop, api.OpReturn, api.OpThrow}, ins.Op)
			if takes > l[pc] || after > api.MaxStack || goesOn && l[pc+1] != after {
				t.Fatalf("%s: function %d, place %d: %v", brief(p), n, pc, l)
			}
			if (ins.Op == api.OpJump || ins.Op == api.OpUnless) && l[ins.A] != after || ins.Op == api.OpLoop && (l[pc] != 0 || l[ins.A] != 0) {
				t.Fatalf("%s: function %d, place %d: %v", brief(p), n, pc, l)
			}
			for _, h := range f.Handlers {
				if h.From <= pc && pc < h.To && (l[h.At] != h.Deep+1 || l[pc] < h.Deep) {
					t.Fatalf("%s: function %d, place %d: %v", brief(p), n, pc, l)
				}
			}
		}
	}
}

// P9.3: the code of texts may be.
func TestTexts(t *testing.T) {
	codes := 0
	for seed := range 4000 {
		if p, _, e := gen.Of(samples.Text(seed)); e == api.OK {
			follows(t, p)
			codes++
		}
	}
	if codes < 3500 {
		t.Errorf("%d codes", codes)
	}
}

// P9.3: texts as great as they may be, in one way or another.
func TestGreatTexts(t *testing.T) {
	vars := ""
	for i := range api.MaxLocals {
		vars += "var v" + strconv.Itoa(i) + " = " + strconv.Itoa(i) + ";"
	}
	uses := "v0 + v31 + v63 + v0"
	for _, s := range []string{
		"", "return nil;", "throw nil; print 1;", "while yes { }", "while yes { while no { } }", "try { } catch c { }", "try { return 1; } catch c { try { throw c; } catch d { } }",
		vars, vars + uses + ";", vars + "fn (a) { return fn () { return a + " + uses + "; }; };", strings.Repeat("fn () { };", api.MaxFns-1), strings.Repeat("fn () { ", 30) + strings.Repeat("};", 30),
		"[" + strings.Repeat("nil, ", api.MaxStack-1) + "nil];", "nil(" + strings.Repeat("nil, ", api.MaxStack-2) + "nil);", "({" + strings.Repeat("nil: nil, ", api.MaxStack/2-1) + "nil: nil});",
		strings.Repeat("try { 1; } catch c { }", api.MaxLocals), strings.Repeat("try { ", 30) + "1;" + strings.Repeat("} catch c { 2; }", 30), strings.Repeat("while yes { ", 30) + strings.Repeat("}", 30),
		"fn " + strings.Repeat("n", api.MaxText) + "() { };", `"` + strings.Repeat("t", api.MaxText) + `";`, "9223372036854775807;", strings.Repeat("1;", api.MaxParts/2),
	} {
		p, _, e := gen.Of(s)
		if e != api.OK {
			t.Errorf("Of(%.100q): %d", s, e)
			continue
		}
		follows(t, p)
	}
}

// relined: a tree with other lines.
func relined(l []api.Stmt, line func() int) {
	for i := range l {
		l[i].Line = line()
		relined(l[i].Body, line)
		relined(l[i].Else, line)
		relinedExprs(l[i].Args, line)
	}
}

func relinedExprs(l []api.Expr, line func() int) {
	for i := range l {
		l[i].Line = line()
		relined(l[i].Body, line)
		relinedExprs(l[i].Args, line)
	}
}

// P9.3: the code of trees without a line below 0 may be; P9.1: with one, it may not, if that line is an instruction's.
func TestTrees(t *testing.T) {
	for seed := range 2000 {
		tree, _, _ := parse.Parse(samples.Text(seed))
		d := samples.Dice(seed)
		relined(tree, func() int { return []int{0, 1, d.Below(1000), math.MaxInt}[d.Below(4)] })
		p, e := gen.Code(tree)
		if e != api.OK {
			continue
		}
		follows(t, p)
		relined(tree, func() int { return min(0, d.Below(200)-1) })
		p, _ = gen.Code(tree)
		for n, f := range p {
			if slices.Min(f.Lines) < 0 {
				wantFault(t, p, n, 0)
				break
			}
		}
	}
}

// spans: where the lists of a program are in memory, with their spare room.
func spans(p api.Program) [][2]uintptr {
	l := [][2]uintptr{spanOf(p)}
	for _, f := range p {
		l = append(l, spanOf(f.Caps), spanOf(f.Consts), spanOf(f.Code), spanOf(f.Lines), spanOf(f.Handlers))
	}
	return l
}

func spanOf[T any](l []T) [2]uintptr {
	var x T
	at := uintptr(unsafe.Pointer(unsafe.SliceData(l)))
	return [2]uintptr{at, at + uintptr(cap(l))*unsafe.Sizeof(x)}
}

func meet(a, b [2]uintptr) bool { return a[0] < b[1] && b[0] < a[1] }

// roomy: a list with spare room in which something stands.
func roomy[T any](l []T, x T) []T {
	n := len(l)
	l = append(slices.Clone(l), x, x, x)
	return l[:n]
}

func roomyProgram(p api.Program) api.Program {
	p = roomy(p, api.Fn{Name: "spare"})
	for i, f := range p {
		p[i].Caps, p[i].Consts = roomy(f.Caps, api.Cap{N: 7}), roomy(f.Consts, api.Const{S: "spare"})
		p[i].Code, p[i].Lines, p[i].Handlers = roomy(f.Code, api.Ins{A: 7}), roomy(f.Lines, 7), roomy(f.Handlers, api.Handler{At: 7})
	}
	return p
}

// whole: a program with its spare room as part of it.
func whole(p api.Program) api.Program {
	p = slices.Clone(p[:cap(p)])
	for i, f := range p {
		p[i].Caps, p[i].Consts, p[i].Code, p[i].Lines, p[i].Handlers = slices.Clone(f.Caps[:cap(f.Caps)]), slices.Clone(f.Consts[:cap(f.Consts)]), slices.Clone(f.Code[:cap(f.Code)]), slices.Clone(f.Lines[:cap(f.Lines)]), slices.Clone(f.Handlers[:cap(f.Handlers)])
	}
	return p
}

// R4: what is handed in stays as it is, its spare room too; an answer is new memory. R5: it hangs on nothing that was asked before.
func TestMemory(t *testing.T) {
	for seed := range 1500 {
		p, _, e := gen.Of(samples.Text(seed))
		if e != api.OK {
			continue
		}
		p = roomyProgram(p)
		if seed%3 == 0 {
			p[len(p)-1].Code[0].Op = api.OpPut
		}
		old := whole(p)
		n, pc, e := verify.Check(p)
		first, e1 := verify.Depths(p, len(p)-1)
		second, e2 := verify.Depths(p, len(p)-1)
		if !reflect.DeepEqual(whole(p), old) {
			t.Fatalf("%s: changed", brief(p))
		}
		verify.Check(only("Nil Pop Pop Nil Return"))
		if n2, pc2, e3 := verify.Check(p); n2 != n || pc2 != pc || e3 != e || e1 != e || e2 != e || !slices.Equal(first, second) {
			t.Fatalf("%s hangs on what was asked before", brief(p))
		}
		all := append(spans(p), spanOf(second))
		for _, s := range all {
			if meet(s, spanOf(first)) {
				t.Fatalf("Depths(%s) shares memory", brief(p))
			}
		}
		for i := range first[:cap(first)] {
			first[:cap(first)][i] = 1000
		}
		if third, _ := verify.Depths(p, len(p)-1); !slices.Equal(second, third) {
			t.Fatalf("%s hangs on what was done with an answer", brief(p))
		}
	}
}

// R4: lists that are empty mean the same as nil ones.
func TestEmpty(t *testing.T) {
	p := only("Nil Return")
	p[0].Caps, p[0].Consts, p[0].Handlers = []api.Cap{}, []api.Const{}, []api.Handler{}
	wantRight(t, p, 0, 1)
	p[0].Code, p[0].Lines = []api.Ins{}, []int{}
	wantFault(t, p, 0, 0)
	p[0].Code, p[0].Lines = nil, nil
	wantFault(t, p, 0, 0)
}

// R4: functions that share their lists.
func TestSharedLists(t *testing.T) {
	f := fn("Nil Pop Nil Return", handlers(0, 1, 1, 0))
	wantRight(t, slices.Repeat(api.Program{f}, 5), 0, 1, 0, 1)
	f.Lines = []int{0, 1, 0, 1}
	g := f
	g.Code = f.Code[2:]
	g.Lines = f.Lines[:2]
	wantRight(t, api.Program{f, g}, 0, 1, 0, 1)
}
