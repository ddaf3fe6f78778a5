package scope_test

import (
	"cmp"
	"reflect"
	"slices"
	"strings"
	"testing"
	"unsafe"

	"gearbox/api"
	"gearbox/parse"
	"gearbox/scope"
)

// dice is a row of numbers that hangs on its start alone.
type dice uint64

func (d *dice) below(n int) int {
	*d = *d*6364136223846793005 + 1442695040888963407
	return int(uint64(*d) >> 33 % uint64(n))
}

// forest makes trees of any kind, with few names and a line of its own for each part.
type forest struct {
	*dice
	names []string
	line  int
}

func (f *forest) nextLine() int {
	f.line++
	return f.line
}

func (f *forest) name() string { return f.names[f.below(len(f.names))] }

// params: unlike ones, mostly.
func (f *forest) params() []string {
	var l []string
	for range f.below(4) {
		if s := f.name(); !slices.Contains(l, s) || f.below(40) == 0 {
			l = append(l, s)
		}
	}
	return l
}

func (f *forest) exprs(n, deep int) []api.Expr {
	var l []api.Expr
	for range n {
		l = append(l, f.expr(deep))
	}
	return l
}

func (f *forest) expr(deep int) api.Expr {
	x := api.Expr{Line: f.nextLine()}
	if deep <= 0 || f.below(4) == 0 {
		if f.below(4) > 0 {
			x.Kind, x.S = api.ExName, f.name()
		}
		return x
	}
	if f.below(2) == 0 {
		x.Kind, x.Params, x.Body = api.ExFn, f.params(), f.stmts(f.below(4), deep-1)
		if f.below(2) == 0 {
			x.S = f.name()
		}
		return x
	}
	args := 2
	switch x.Kind = api.ExBin + api.ExprKind(f.below(11)); x.Kind {
	case api.ExBin:
		x.S = "<="
	case api.ExNot, api.ExNeg, api.ExLen, api.ExShow:
		args = 1
	case api.ExList, api.ExCall:
		args = 1 + f.below(3)
	case api.ExMap:
		args = 2 * f.below(3)
	}
	x.Args = f.exprs(args, deep-1)
	return x
}

func (f *forest) stmts(n, deep int) []api.Stmt {
	var l []api.Stmt
	for range n {
		l = append(l, f.stmt(deep-1))
	}
	return l
}

func (f *forest) stmt(deep int) api.Stmt {
	s := api.Stmt{Kind: api.StVar + api.StmtKind(f.below(10)), Line: f.nextLine()}
	if f.below(5) == 0 {
		s.Kind = api.StVar
	}
	args := 1
	switch s.Kind {
	case api.StVar, api.StSet:
		s.Name = f.name()
	case api.StPut:
		args = 3
	case api.StTry:
		s.Name, args = f.name(), 0
	}
	s.Args = f.exprs(args, deep)
	if s.Kind == api.StIf || s.Kind == api.StWhile || s.Kind == api.StTry {
		s.Body = f.stmts(f.below(4), deep)
	}
	if s.Kind == api.StIf || s.Kind == api.StTry {
		s.Else = f.stmts(f.below(4), deep)
	}
	return s
}

// tree: mostly a small one; now and then one with about as many functions, or locals of a function, as may be. In most of them all names are known from the beginning on.
func (f *forest) tree(seed int) []api.Stmt {
	var l []api.Stmt
	if seed%4 > 0 {
		for _, s := range f.names {
			l = append(l, api.Stmt{Kind: api.StVar, Name: s, Args: []api.Expr{{Line: f.nextLine()}}, Line: f.nextLine()})
		}
	}
	switch seed % 50 {
	case 1:
		return append(l, f.stmts(60+f.below(60), 2)...)
	case 2:
		body := f.stmts(40+f.below(60), 2)
		return append(l, api.Stmt{Kind: api.StReturn, Args: []api.Expr{{Kind: api.ExFn, Params: f.params(), Body: body, Line: f.nextLine()}}, Line: f.nextLine()})
	case 3:
		for range 150 + f.below(120) {
			x := api.Expr{Kind: api.ExFn, Params: f.params(), Line: f.nextLine()}
			if f.below(2) == 0 {
				x.Body = []api.Stmt{{Kind: api.StDo, Args: f.exprs(1, 0), Line: f.nextLine()}}
			}
			l = append(l, api.Stmt{Kind: api.StDo, Args: []api.Expr{x}, Line: f.nextLine()})
		}
		return l
	}
	return append(l, f.stmts(1+f.below(5), 1+f.below(9))...)
}

func grow(seed int) ([]api.Stmt, *forest) {
	d := dice(seed)
	f := &forest{dice: &d, names: strings.Fields("a b c d e f")[:1+seed%6]}
	return f.tree(seed), f
}

// check: P7.1 and P7.2, of any tree that has a text.
func check(t *testing.T, l []api.Stmt) ([]scope.Names, api.Errno) {
	t.Helper()
	m := modelOf(l)
	line, want := m.first()
	if n, e := scope.Check(l); n != line || e != want {
		t.Errorf("Check(%s) = %d, %d, not %d, %d", brief(l), n, e, line, want)
	}
	fns, e := scope.Fns(l)
	if want != api.OK {
		if len(fns) != 0 || e != want {
			t.Errorf("Fns(%s) = %q, %d, not none and %d", brief(l), told(fns), e, want)
		}
		return nil, want
	}
	if names := m.names(); !alike(fns, names) || e != api.OK {
		t.Errorf("Fns(%s) = %q, %d, not %q", brief(l), told(fns), e, told(names))
	}
	return fns, want
}

// alike: are Names the same? (Empty lists and nil are.)
func alike(a, b []scope.Names) bool {
	return slices.EqualFunc(a, b, func(x, y scope.Names) bool {
		return slices.Equal(x.Locals, y.Locals) && slices.Equal(x.Cells, y.Cells) && slices.Equal(x.Caps, y.Caps)
	})
}

// P7.1, P7.2, P7.3: of any tree.
func TestFollows(t *testing.T) {
	var count [api.ErrName + 1]int
	cells, ups := 0, 0
	for seed := range 4000 {
		tree, f := grow(seed)
		if _, e := parse.Text(tree); e != api.OK {
			wantError(t, tree, 0, e)
			continue
		}
		old := copyOf(tree)
		fns, e := check(t, tree)
		count[e]++
		if e == api.OK {
			follows(t, tree, fns)
			for _, n := range fns {
				cells += strings.Count(told([]scope.Names{n}), "*")
				ups += strings.Count(told([]scope.Names{n}), "^")
			}
		}
		if !same(tree, old) {
			t.Errorf("%s was changed", brief(old))
		}
		if t.Failed() {
			t.Fatalf("start %d, %d lines", seed, f.line)
		}
	}
	if count[api.OK] < 2000 || count[api.ErrName] < 600 || count[api.ErrLimit] < 50 || cells < 5000 || ups < 5000 {
		t.Errorf("too few: %v, %d cells, %d ups", count, cells, ups)
	}
}

// follows: P7.3, of a tree without faults.
func follows(t *testing.T, tree []api.Stmt, fns []scope.Names) {
	t.Helper()
	around := modelOf(tree).around
	if len(fns) != len(around) || len(fns) != 1+countFns(tree) {
		t.Errorf("Fns(%s): %d functions", brief(tree), len(fns))
		return
	}
	type cell struct{ fn, at int }
	caught := map[cell]bool{}
	for i, f := range fns {
		for _, c := range f.Caps {
			switch {
			case i == 0, c.Up && c.N >= len(fns[around[i]].Caps), !c.Up && !fns[around[i]].Cells[c.N]:
				t.Errorf("Fns(%s) = %q: function %d has a cap %v", brief(tree), told(fns), i, c)
			case !c.Up:
				caught[cell{around[i], c.N}] = true
			}
		}
	}
	for i, f := range fns {
		for n, is := range f.Cells {
			if is != caught[cell{i, n}] {
				t.Errorf("Fns(%s) = %q: local %d of function %d", brief(tree), told(fns), n, i)
			}
		}
	}
	oneAhead(t, tree, fns, around)
	if inner := within(tree); small(inner) {
		if l, e := scope.Fns(inner); e != api.OK || !alike(l, fns) {
			t.Errorf("Fns(%s) = %q, %d, not %q", brief(inner), told(l), e, told(fns))
		}
	}
	if l, e := scope.Fns(withoutLines(tree)); e != api.OK || !alike(l, fns) {
		t.Errorf("Fns(%s) without lines = %q, %d, not %q", brief(tree), told(l), e, told(fns))
	}
}

// oneAhead: P7.3, with a var of a name that stands nowhere, ahead of all.
func oneAhead(t *testing.T, tree []api.Stmt, fns []scope.Names, around []int) {
	t.Helper()
	more := append([]api.Stmt{newVar("nowhere", none)}, tree...)
	if !small(more) {
		return
	}
	if len(fns[0].Locals) == api.MaxLocals {
		if _, e := scope.Fns(more); e != api.ErrLimit {
			t.Errorf("Fns(%s): %d", brief(more), e)
		}
		return
	}
	want := slices.Clone(fns)
	want[0].Locals = append([]string{"nowhere"}, want[0].Locals...)
	want[0].Cells = append([]bool{false}, want[0].Cells...)
	for i := range want {
		want[i].Caps = slices.Clone(want[i].Caps)
		for n, c := range want[i].Caps {
			if around[i] == 0 && !c.Up {
				want[i].Caps[n].N++
			}
		}
	}
	if l, e := scope.Fns(more); e != api.OK || !alike(l, want) {
		t.Errorf("Fns(%s) = %q, %d, not %q", brief(more), told(l), e, told(want))
	}
}

func small(l []api.Stmt) bool {
	_, e := parse.Text(l)
	return e == api.OK
}

func countFns(l []api.Stmt) int {
	s, _ := parse.Text(l)
	return strings.Count(s, "fn(") + strings.Count(s, "fn ")
}

func withoutLines(l []api.Stmt) []api.Stmt {
	s, _ := parse.Text(l)
	tree, _, _ := parse.Parse(strings.ReplaceAll(s, "\n", " "))
	return tree
}

// mangled: a tree with a field of one of its parts set to something, so that it may be none.
func (f *forest) mangled(l []api.Stmt) {
	if len(l) == 0 {
		return
	}
	s := &l[f.below(len(l))]
	switch f.below(9) {
	case 0:
		s.Kind = api.StmtKind(f.below(12))
	case 1:
		s.Name = []string{"", "if", "a", "1"}[f.below(4)]
	case 2:
		s.Args = s.Args[:f.below(len(s.Args)+1)]
	case 3:
		s.Args = append(s.Args, api.Expr{Kind: api.ExName, S: "a"})
	case 4, 5:
		f.mangled(s.Body)
	case 6:
		f.mangled(s.Else)
	default:
		f.mangledExprs(s.Args)
	}
}

func (f *forest) mangledExprs(l []api.Expr) {
	if len(l) == 0 {
		return
	}
	x := &l[f.below(len(l))]
	switch f.below(9) {
	case 0:
		x.Kind = api.ExprKind(f.below(18))
	case 1:
		x.S = []string{"", "if", "a", "+"}[f.below(4)]
	case 2:
		x.N = int64(f.below(3)) - 1
	case 3:
		x.Args = append(x.Args, api.Expr{Kind: api.ExName, S: "a"})
	case 4:
		x.Params = append(x.Params, []string{"", "if", "a", "zz"}[f.below(4)])
	case 5:
		x.Body = append(x.Body, api.Stmt{Kind: api.StmtKind(f.below(11))})
	case 6:
		f.mangled(x.Body)
	default:
		f.mangledExprs(x.Args)
	}
}

// P7.1, R1: trees that may not be.
func TestMangled(t *testing.T) {
	wrong, right := 0, 0
	for seed := range 4000 {
		tree, f := grow(seed)
		for range 1 + f.below(3) {
			f.mangled(tree)
		}
		if _, e := parse.Text(tree); e != api.OK {
			wrong++
			wantError(t, tree, 0, e)
			continue
		}
		right++
		check(t, tree)
		if t.Failed() {
			t.Fatalf("start %d", seed)
		}
	}
	if wrong < 1500 || right < 1000 {
		t.Errorf("too few: %d, %d", wrong, right)
	}
}

func span[T any](l []T) [2]uintptr {
	var x T
	at := uintptr(unsafe.Pointer(unsafe.SliceData(l)))
	return [2]uintptr{at, at + uintptr(cap(l))*unsafe.Sizeof(x)}
}

// spans: where each list of an answer lies, its spare room too.
func spans(l []scope.Names) [][2]uintptr {
	all := [][2]uintptr{span(l)}
	for _, f := range l {
		all = append(all, span(f.Locals), span(f.Cells), span(f.Caps))
	}
	return all
}

// paramSpans: where the lists of names of a tree lie.
func paramSpans(l []api.Stmt) [][2]uintptr {
	var all [][2]uintptr
	for _, s := range l {
		all = append(append(append(all, paramSpansOf(s.Args)...), paramSpans(s.Body)...), paramSpans(s.Else)...)
	}
	return all
}

func paramSpansOf(l []api.Expr) [][2]uintptr {
	var all [][2]uintptr
	for _, x := range l {
		all = append(append(append(all, span(x.Params)), paramSpansOf(x.Args)...), paramSpans(x.Body)...)
	}
	return all
}

// R4: no two lists of an answer share memory, nor do those of two answers, nor with what was handed in, which stays as it is, its spare room too. R5: an answer hangs on nothing that was asked before.
func TestMemory(t *testing.T) {
	for seed := range 1200 {
		tree, _ := grow(seed)
		first, e := scope.Fns(tree)
		if e != api.OK {
			continue
		}
		full := slices.Grow(slices.Clone(tree), 3)
		spare := full[:cap(full)]
		for i := len(full); i < len(spare); i++ {
			spare[i] = do(name("spare"))
		}
		old := copyOf(spare)
		second, _ := scope.Fns(full)
		scope.Check(full)
		if !same(spare, old) {
			t.Fatalf("%s: changed", brief(tree))
		}
		all := slices.Concat(spans(first), spans(second), paramSpans(tree))
		all = slices.DeleteFunc(all, func(s [2]uintptr) bool { return s[0] == s[1] })
		slices.SortFunc(all, func(a, b [2]uintptr) int { return cmp.Compare(a[0], b[0]) })
		for i := range all[1:] {
			if all[i][1] > all[i+1][0] {
				t.Fatalf("Fns(%s): two lists share memory", brief(tree))
			}
		}
		scope.Fns([]api.Stmt{do(name("nowhere"))})
		if third, _ := scope.Fns(tree); !reflect.DeepEqual(first, second) || !reflect.DeepEqual(first, third) {
			t.Fatalf("Fns(%s) hangs on what was asked before", brief(tree))
		}
	}
}
