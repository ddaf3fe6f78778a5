package gen_test

import (
	"cmp"
	"reflect"
	"slices"
	"testing"
	"unsafe"

	"gearbox/api"
	"gearbox/gen"
	"gearbox/parse"
	"gearbox/scope"
)

// alike: are programs the same? (Empty lists and nil are.)
func alike(a, b api.Program) bool {
	return slices.EqualFunc(a, b, func(x, y api.Fn) bool {
		return x.Name == y.Name && x.Params == y.Params && x.Locals == y.Locals && slices.Equal(x.Caps, y.Caps) && slices.Equal(x.Consts, y.Consts) &&
			slices.Equal(x.Code, y.Code) && slices.Equal(x.Lines, y.Lines) && slices.Equal(x.Handlers, y.Handlers)
	})
}

// check: P8.1, of any tree.
func check(t *testing.T, tree []api.Stmt) (api.Program, api.Errno) {
	t.Helper()
	var want api.Program
	_, e := scope.Check(tree)
	if e == api.OK {
		want, e = modelOf(tree)
	}
	p, got := gen.Code(tree)
	if got != e || !alike(p, want) {
		t.Errorf("Code(%s) = %+v, %d, not %+v, %d", brief(tree), p, got, want, e)
	}
	return p, e
}

// checkOf: P8.2, of any text.
func checkOf(t *testing.T, s string) api.Errno {
	t.Helper()
	var want api.Program
	tree, wantLine, wantErr := parse.Parse(s)
	if wantErr == api.OK {
		wantLine, wantErr = scope.Check(tree)
	}
	if wantErr == api.OK {
		want, wantErr = modelOf(tree)
	}
	if p, line, e := gen.Of(s); line != wantLine || e != wantErr || !alike(p, want) {
		t.Errorf("Of(%.800q) = %+v, %d, %d, not %+v, %d, %d", s, p, line, e, want, wantLine, wantErr)
	}
	return wantErr
}

// P8.1, P8.2, P8.3: of any tree.
func TestFollows(t *testing.T) {
	var count [api.ErrName + 1]int
	plain, cells, ups := 0, 0, 0
	for seed := range 3000 {
		tree, f := grow(seed)
		old := copyOf(tree, asItIs)
		p, e := check(t, tree)
		if s, e := parse.Text(tree); e == api.OK {
			checkOf(t, s)
		}
		count[e]++
		if t.Failed() {
			t.Fatalf("start %d, %d lines", seed, f.line)
		}
		if e == api.OK {
			harmless(t, p)
			constantsUsed(t, p)
			otherLines(t, tree, p)
			if !f.fns {
				plain++
				beginnings(t, tree, p)
			}
			for _, fn := range p {
				for _, i := range fn.Code {
					cells += map[api.Op]int{api.OpCell: 1}[i.Op]
					ups += map[api.Op]int{api.OpUp: 1, api.OpUpStore: 1}[i.Op]
				}
			}
		}
		if !same(tree, old) {
			t.Errorf("%s was changed", brief(old))
		}
		if t.Failed() {
			t.Fatalf("start %d, %d lines", seed, f.line)
		}
	}
	if count[api.OK] < 2000 || count[api.ErrName] < 200 || count[api.ErrLimit] < 100 || plain < 500 || cells < 3000 || ups < 3000 {
		t.Errorf("too few: %v, %d without functions, %d cells, %d ups", count, plain, cells, ups)
	}
}

// constantsUsed: P8.3. Each constant is used; and no two are alike.
func constantsUsed(t *testing.T, p api.Program) {
	t.Helper()
	for _, f := range p {
		next := 0
		for _, i := range f.Code {
			if i.Op == api.OpConst && i.A == next {
				next++
			}
		}
		if next != len(f.Consts) {
			t.Errorf("%s: constants %s", told(f), constsTold(f))
		}
		for i, c := range f.Consts {
			if slices.Contains(f.Consts[:i], c) {
				t.Errorf("%s twice", constsTold(f))
			}
		}
	}
}

// otherLines: P8.3. Lines of a tree change nothing but Lines.
func otherLines(t *testing.T, tree []api.Stmt, p api.Program) {
	t.Helper()
	for _, line := range []func(int) int{func(int) int { return 0 }, func(n int) int { return -3 * n }} {
		q, e := gen.Code(copyOf(tree, line))
		if e != api.OK || len(q) != len(p) {
			t.Errorf("Code(%s) with other lines: %d", brief(tree), e)
			return
		}
		for i := range q {
			for n, was := range p[i].Lines {
				if was != 0 {
					was = line(was)
				}
				if q[i].Lines[n] != was {
					t.Errorf("Code(%s) with other lines: %v, not as %v", brief(tree), q[i].Lines, p[i].Lines)
				}
			}
			q[i].Lines = p[i].Lines
		}
		if !alike(p, q) {
			t.Errorf("Code(%s) with other lines: %+v, not %+v", brief(tree), q, p)
		}
	}
}

// beginnings: P8.3. Code of the first statements of a tree without functions begins that of all, but for its end.
func beginnings(t *testing.T, tree []api.Stmt, p api.Program) {
	t.Helper()
	all := p[0]
	for n := range tree {
		q, e := gen.Code(tree[:n])
		if e != api.OK || len(q) != 1 {
			t.Errorf("Code(%s): %d", brief(tree[:n]), e)
			return
		}
		f := q[0]
		end := len(f.Code) - 2
		if told(api.Fn{Code: f.Code[end:]}) != "Nil Return" || !begins(f.Code[:end], all.Code) || !begins(f.Lines[:end], all.Lines) || !begins(f.Consts, all.Consts) || !begins(f.Handlers, all.Handlers) || f.Locals > all.Locals {
			t.Errorf("Code(%s) does not begin Code(%s)", brief(tree[:n]), brief(tree))
		}
	}
}

func begins[T comparable](a, b []T) bool { return len(a) <= len(b) && slices.Equal(a, b[:len(a)]) }

// P8.1, R1: trees that may not be.
func TestMangled(t *testing.T) {
	var count [api.ErrName + 1]int
	for seed := range 5000 {
		tree, f := grow(seed)
		for range 1 + f.below(3) {
			f.mangled(tree)
		}
		p, e := check(t, tree)
		count[e]++
		harmless(t, p)
		if t.Failed() {
			t.Fatalf("start %d", seed)
		}
	}
	if count[api.OK] < 1000 || count[api.ErrArg] < 1500 || count[api.ErrName] < 200 {
		t.Errorf("too few: %v", count)
	}
}

// P8.2, R1: texts that may not be.
func TestMangledTexts(t *testing.T) {
	var count [api.ErrName + 1]int
	for seed := range 4000 {
		tree, f := grow(seed)
		s, e := parse.Text(tree)
		if e != api.OK || s == "" {
			continue
		}
		for range 1 + f.below(2) {
			at := f.below(len(s))
			more := []string{"", "", " ", "\n", "a", "g", "0", ";", "(", "}", "=", "-", "not ", "\"", "&", "\xff"}[f.below(16)]
			s = s[:at] + more + s[at+f.below(2):]
		}
		count[checkOf(t, s)]++
		if t.Failed() {
			t.Fatalf("start %d", seed)
		}
	}
	if count[api.OK] < 300 || count[api.ErrWord] < 500 || count[api.ErrSyntax] < 1000 || count[api.ErrName] < 200 || count[api.ErrLimit] < 20 {
		t.Errorf("too few: %v", count)
	}
}

func span[T any](l []T) [2]uintptr {
	var x T
	at := uintptr(unsafe.Pointer(unsafe.SliceData(l)))
	return [2]uintptr{at, at + uintptr(cap(l))*unsafe.Sizeof(x)}
}

// spans: where each list of an answer lies, its spare room too.
func spans(p api.Program) [][2]uintptr {
	all := [][2]uintptr{span(p)}
	for _, f := range p {
		all = append(all, span(f.Caps), span(f.Consts), span(f.Code), span(f.Lines), span(f.Handlers))
	}
	return all
}

// R4: no two lists of an answer share memory, nor do those of two answers; what was handed in stays as it is, its spare room too. R5: an answer hangs on nothing that was asked before.
func TestMemory(t *testing.T) {
	for seed := range 1500 {
		tree, _ := grow(seed)
		first, e := gen.Code(tree)
		if e != api.OK {
			continue
		}
		fullList := slices.Grow(slices.Clone(tree), 3)
		spare := fullList[:cap(fullList)]
		for i := len(fullList); i < len(spare); i++ {
			spare[i] = do(name("spare"))
		}
		old := copyOf(spare, asItIs)
		second, _ := gen.Code(fullList)
		if !same(spare, old) {
			t.Fatalf("%s: changed", brief(tree))
		}
		all := slices.Concat(spans(first), spans(second))
		all = slices.DeleteFunc(all, func(s [2]uintptr) bool { return s[0] == s[1] })
		slices.SortFunc(all, func(a, b [2]uintptr) int { return cmp.Compare(a[0], b[0]) })
		for i := range all[1:] {
			if all[i][1] > all[i+1][0] {
				t.Fatalf("Code(%s): two lists share memory", brief(tree))
			}
		}
		gen.Of("var nowhere = 1; fn () { nowhere; }; [2, 3];")
		if third, _ := gen.Code(tree); !reflect.DeepEqual(first, second) || !reflect.DeepEqual(first, third) {
			t.Fatalf("Code(%s) hangs on what was asked before", brief(tree))
		}
	}
}

// R1, R4: lists of a tree that share memory.
func TestSharedLists(t *testing.T) {
	body := []api.Stmt{stmt(api.StVar, "b", name("a")), do(api.Expr{Kind: api.ExFn, Body: []api.Stmt{do(name("b"))}})}
	params := []string{"p", "q"}
	fn := func(params []string) api.Stmt { return do(api.Expr{Kind: api.ExFn, Params: params, Body: body}) }
	tree := []api.Stmt{stmt(api.StVar, "a", none), fn(params), fn(params), fn(params[1:]), {Kind: api.StIf, Args: []api.Expr{none}, Body: body, Else: body}}
	p, e := check(t, tree)
	if e != api.OK || len(p) != 9 {
		t.Errorf("%+v, %d", p, e)
	}
	harmless(t, p)
}
