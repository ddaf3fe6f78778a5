package gen_test

import (
	"slices"
	"strings"

	"gearbox/api"
)

// dice is a row of numbers that hangs on its start alone.
type dice uint64

func (d *dice) below(n int) int {
	*d = *d*6364136223846793005 + 1442695040888963407
	return int(uint64(*d) >> 33 % uint64(n))
}

// forest makes trees of any kind, with few names and constants, and a line of its own for each part.
type forest struct {
	*dice
	names []string
	fns   bool // are there functions?
	wide  int  // how many items lists have at most
	line  int
}

func (f *forest) nextLine() int {
	f.line++
	return f.line
}

func (f *forest) name() string { return f.names[f.below(len(f.names))] }

func (f *forest) params() []string {
	var l []string
	for range f.below(4) {
		if s := f.name(); !slices.Contains(l, s) {
			l = append(l, s)
		}
	}
	return l
}

func (f *forest) exprs(n, deep int) []api.Expr {
	var l []api.Expr
	for range n {
		l = append(l, f.expr(deep))
	}
	return l
}

func (f *forest) leaf() api.Expr {
	x := api.Expr{Line: f.nextLine()}
	switch f.below(7) {
	case 0:
		x.Kind, x.N = api.ExBool, int64(f.below(2))
	case 1:
		x.Kind, x.N = api.ExInt, int64(f.below(4))
	case 2:
		x.Kind, x.S = api.ExText, []string{"", "0", "1", "a"}[f.below(4)]
	case 3, 4, 5:
		x.Kind, x.S = api.ExName, f.name()
	}
	return x
}

func (f *forest) expr(deep int) api.Expr {
	if deep <= 0 || f.below(4) == 0 {
		return f.leaf()
	}
	x := api.Expr{Line: f.nextLine()}
	if f.fns && f.below(3) == 0 {
		x.Kind, x.Params, x.Body = api.ExFn, f.params(), f.stmts(f.below(4), deep-1)
		if f.below(2) == 0 {
			x.S = f.name()
		}
		return x
	}
	args := 2
	switch x.Kind = api.ExBin + api.ExprKind(f.below(11)); x.Kind {
	case api.ExBin:
		x.S = []string{"+", "-", "*", "/", "%", "<", "<=", "==", "!="}[f.below(9)]
	case api.ExNot, api.ExNeg, api.ExLen, api.ExShow:
		args = 1
	case api.ExList, api.ExCall:
		args = 1 + f.below(f.wide)
	case api.ExMap:
		args = 2 * f.below(1+f.wide/2)
	}
	if args > 6 { // so that there are not too many parts
		x.Args = append(f.exprs(args-1, 0), f.expr(deep-1))
		return x
	}
	x.Args = f.exprs(args, deep-1)
	return x
}

func (f *forest) stmts(n, deep int) []api.Stmt {
	var l []api.Stmt
	for range n {
		l = append(l, f.stmt(deep-1))
	}
	return l
}

func (f *forest) stmt(deep int) api.Stmt {
	s := api.Stmt{Kind: api.StVar + api.StmtKind(f.below(10)), Line: f.nextLine()}
	args := 1
	switch s.Kind {
	case api.StVar, api.StSet:
		s.Name = f.name()
	case api.StPut:
		args = 3
	case api.StTry:
		s.Name, args = f.name(), 0
	}
	s.Args = f.exprs(args, deep)
	if s.Kind == api.StIf || s.Kind == api.StWhile || s.Kind == api.StTry {
		s.Body = f.stmts(f.below(4), deep)
	}
	if s.Kind == api.StIf || s.Kind == api.StTry {
		s.Else = f.stmts(f.below(4), deep)
	}
	return s
}

// tree: in most of them all names are known from the beginning on.
func (f *forest) tree(seed int) []api.Stmt {
	var l []api.Stmt
	if seed%8 > 0 {
		for _, s := range f.names {
			l = append(l, api.Stmt{Kind: api.StVar, Name: s, Args: []api.Expr{{Line: f.nextLine()}}, Line: f.nextLine()})
		}
	}
	return append(l, f.stmts(1+f.below(6), 1+f.below(8))...)
}

// grow: each third tree is one without functions, each fifth one with lists so long that the stack may be too deep.
func grow(seed int) ([]api.Stmt, *forest) {
	d := dice(seed)
	f := &forest{dice: &d, names: strings.Fields("a b c d e f")[:1+seed%6], fns: seed%3 > 0, wide: 4}
	if seed%5 == 0 {
		f.wide = 280
	}
	return f.tree(seed), f
}

// mangled: a tree with a field of one of its parts set to something, so that it may be none.
func (f *forest) mangled(l []api.Stmt) {
	if len(l) == 0 {
		return
	}
	s := &l[f.below(len(l))]
	switch f.below(9) {
	case 0:
		s.Kind = api.StmtKind(f.below(12))
	case 1:
		s.Name = []string{"", "if", "a", "1"}[f.below(4)]
	case 2:
		s.Args = s.Args[:f.below(len(s.Args)+1)]
	case 3:
		s.Args = append(s.Args, api.Expr{Kind: api.ExName, S: "a"})
	case 4, 5:
		f.mangled(s.Body)
	case 6:
		f.mangled(s.Else)
	default:
		f.mangledExprs(s.Args)
	}
}

func (f *forest) mangledExprs(l []api.Expr) {
	if len(l) == 0 {
		return
	}
	x := &l[f.below(len(l))]
	switch f.below(9) {
	case 0:
		x.Kind = api.ExprKind(f.below(18))
	case 1:
		x.S = []string{"", "if", "a", "+"}[f.below(4)]
	case 2:
		x.N = int64(f.below(3)) - 1
	case 3:
		x.Args = append(x.Args, api.Expr{Kind: api.ExName, S: "a"})
	case 4:
		x.Params = append(x.Params, []string{"", "if", "a", "zz"}[f.below(4)])
	case 5:
		x.Body = append(x.Body, api.Stmt{Kind: api.StmtKind(f.below(11))})
	case 6:
		f.mangled(x.Body)
	default:
		f.mangledExprs(x.Args)
	}
}
