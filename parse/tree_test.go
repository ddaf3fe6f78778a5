package parse_test

import (
	"fmt"
	"reflect"
	"slices"
	"testing"

	"gearbox/api"
	"gearbox/parse"
)

// Trees, written shortly.

func expr(k api.ExprKind, s string, args ...api.Expr) api.Expr {
	return api.Expr{Kind: k, S: s, Args: args}
}

func num(n int64) api.Expr                 { return api.Expr{Kind: api.ExInt, N: n} }
func truth(n int64) api.Expr               { return api.Expr{Kind: api.ExBool, N: n} }
func name(s string) api.Expr               { return expr(api.ExName, s) }
func says(s string) api.Expr               { return expr(api.ExText, s) }
func bin(s string, x, y api.Expr) api.Expr { return expr(api.ExBin, s, x, y) }
func and(x, y api.Expr) api.Expr           { return expr(api.ExAnd, "", x, y) }
func or(x, y api.Expr) api.Expr            { return expr(api.ExOr, "", x, y) }
func not(x api.Expr) api.Expr              { return expr(api.ExNot, "", x) }
func neg(x api.Expr) api.Expr              { return expr(api.ExNeg, "", x) }
func size(x api.Expr) api.Expr             { return expr(api.ExLen, "", x) }
func shown(x api.Expr) api.Expr            { return expr(api.ExShow, "", x) }
func list(l ...api.Expr) api.Expr          { return expr(api.ExList, "", l...) }
func dict(l ...api.Expr) api.Expr          { return expr(api.ExMap, "", l...) }
func get(x, y api.Expr) api.Expr           { return expr(api.ExGet, "", x, y) }
func call(l ...api.Expr) api.Expr          { return expr(api.ExCall, "", l...) }
func params(l ...string) []string          { return l }

func fn(s string, params []string, body ...api.Stmt) api.Expr {
	return api.Expr{Kind: api.ExFn, S: s, Params: params, Body: body}
}

func stmt(k api.StmtKind, s string, args ...api.Expr) api.Stmt {
	return api.Stmt{Kind: k, Name: s, Args: args}
}

func newVar(s string, x api.Expr) api.Stmt { return stmt(api.StVar, s, x) }
func set(s string, x api.Expr) api.Stmt    { return stmt(api.StSet, s, x) }
func put(x, y, z api.Expr) api.Stmt        { return stmt(api.StPut, "", x, y, z) }
func print(x api.Expr) api.Stmt            { return stmt(api.StPrint, "", x) }
func give(x api.Expr) api.Stmt             { return stmt(api.StReturn, "", x) }
func throw(x api.Expr) api.Stmt            { return stmt(api.StThrow, "", x) }
func do(x api.Expr) api.Stmt               { return stmt(api.StDo, "", x) }
func block(l ...api.Stmt) []api.Stmt       { return l }

func when(x api.Expr, body, others []api.Stmt) api.Stmt {
	return api.Stmt{Kind: api.StIf, Args: []api.Expr{x}, Body: body, Else: others}
}

func while(x api.Expr, body ...api.Stmt) api.Stmt {
	return api.Stmt{Kind: api.StWhile, Args: []api.Expr{x}, Body: body}
}

func try(body []api.Stmt, s string, others ...api.Stmt) api.Stmt {
	return api.Stmt{Kind: api.StTry, Name: s, Body: body, Else: others}
}

var none = api.Expr{}

// copyOf: a tree in other memory, empty lists as nil; without its lines, if so asked.
func copyOf(l []api.Stmt, lines bool) []api.Stmt {
	var c []api.Stmt
	for _, s := range l {
		s.Args, s.Body, s.Else = copyOfExprs(s.Args, lines), copyOf(s.Body, lines), copyOf(s.Else, lines)
		if !lines {
			s.Line = 0
		}
		c = append(c, s)
	}
	return c
}

func copyOfExprs(l []api.Expr, lines bool) []api.Expr {
	var c []api.Expr
	for _, x := range l {
		x.Args, x.Body = copyOfExprs(x.Args, lines), copyOf(x.Body, lines)
		x.Params = append([]string(nil), x.Params...)
		if !lines {
			x.Line = 0
		}
		c = append(c, x)
	}
	return c
}

// same: are two trees the same, lines too?
func same(a, b []api.Stmt) bool { return reflect.DeepEqual(copyOf(a, true), copyOf(b, true)) }

// alike: are two trees the same, lines aside?
func alike(a, b []api.Stmt) bool { return reflect.DeepEqual(copyOf(a, false), copyOf(b, false)) }

func brief(x any) string { return fmt.Sprintf("%.600s", fmt.Sprintf("%+v", x)) }

// parsed: the tree of a text that has one.
func parsed(t *testing.T, s string) []api.Stmt {
	t.Helper()
	l, line, e := parse.Parse(s)
	if line != 0 || e != api.OK {
		t.Fatalf("Parse(%.300q) = %s, %d, %d, not a tree", s, brief(l), line, e)
	}
	return l
}

// wantTree: lines aside.
func wantTree(t *testing.T, s string, want ...api.Stmt) {
	t.Helper()
	if l, line, e := parse.Parse(s); !alike(l, want) || line != 0 || e != api.OK {
		t.Errorf("Parse(%.300q) = %s, %d, %d, not %s", s, brief(l), line, e, brief(want))
	}
}

// wantExpr: as what is done, set, handed on, and within brackets.
func wantExpr(t *testing.T, s string, x api.Expr) {
	t.Helper()
	wantTree(t, s+";", do(x))
	wantTree(t, "("+s+");", do(x))
	wantTree(t, "v="+s+";", set("v", x))
	wantTree(t, "var v="+s+";", newVar("v", x))
	wantTree(t, "f(1,"+s+")["+s+"]=["+s+","+s+"];", put(call(name("f"), num(1), x), x, list(x, x)))
	wantTree(t, "if "+s+"{}while "+s+"{}", when(x, nil, nil), while(x))
	wantTree(t, "return "+s+";print "+s+";throw "+s+";", give(x), print(x), throw(x))
	wantTree(t, "{"+s+":"+s+"};", do(dict(x, x)))
	wantTree(t, "-("+s+");", do(neg(x)))
}

func wantError(t *testing.T, s string, line int, want api.Errno) {
	t.Helper()
	if l, n, e := parse.Parse(s); len(l) != 0 || n != line || e != want {
		t.Errorf("Parse(%.300q) = %s, %d, %d, not none, %d, %d", s, brief(l), n, e, line, want)
	}
}

func wantText(t *testing.T, want string, l ...api.Stmt) {
	t.Helper()
	if s, e := parse.Text(l); s != want || e != api.OK {
		t.Errorf("Text(%s) = %.300q, %d, not %.300q", brief(l), s, e, want)
	}
}

func wantTextError(t *testing.T, want api.Errno, l ...api.Stmt) {
	t.Helper()
	if s, e := parse.Text(l); s != "" || e != want {
		t.Errorf("Text(%d statements) = %.300q, %d, not none and %d", len(l), s, e, want)
	}
}

// wantFit: whether a statement may be, at the first place, within others, and beside others.
func wantFit(t *testing.T, s api.Stmt, may bool) {
	t.Helper()
	for _, l := range [][]api.Stmt{
		{s}, {do(num(1)), s, do(num(2))},
		{when(num(1), block(s), nil)}, {when(num(1), nil, block(s))}, {while(num(1), s)}, {try(block(s), "a")}, {try(nil, "a", s)},
		{do(fn("", nil, s))}, {print(list(num(1), neg(fn("f", params("a"), while(none, s)))))},
	} {
		text, e := parse.Text(l)
		if may && e != api.OK || !may && (e != api.ErrArg || text != "") {
			t.Errorf("Text(%s) = %.300q, %d", brief(l), text, e)
		}
		if e == api.OK {
			wantTree(t, text, l...)
		}
	}
}

// wantFitExpr: whether an expression may be, wherever one stands.
func wantFitExpr(t *testing.T, x api.Expr, may bool) {
	t.Helper()
	for _, s := range []api.Stmt{
		newVar("a", x), set("a", x), put(x, none, none), put(none, x, none), put(none, none, x),
		when(x, nil, nil), while(x), give(x), print(x), throw(x), do(x),
		do(bin("+", x, none)), do(bin("<", none, x)), do(and(x, none)), do(and(none, x)), do(or(x, none)), do(or(none, x)),
		do(not(x)), do(neg(x)), do(size(x)), do(shown(x)), do(list(x)), do(list(none, x, none)), do(dict(x, none)), do(dict(none, none, none, x)),
		do(get(x, none)), do(get(none, x)), do(call(x)), do(call(none, x)), do(call(none, none, x)), do(fn("", nil, do(x))),
	} {
		wantFit(t, s, may)
	}
}

func repeat[T any](n int, l ...T) []T { return slices.Repeat(l, n) }
