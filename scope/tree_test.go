package scope_test

import (
	"fmt"
	"reflect"
	"strings"
	"testing"

	"gearbox/api"
	"gearbox/parse"
	"gearbox/scope"
)

// Trees, written shortly.

func expr(k api.ExprKind, s string, args ...api.Expr) api.Expr {
	return api.Expr{Kind: k, S: s, Args: args}
}

func stmt(k api.StmtKind, s string, args ...api.Expr) api.Stmt {
	return api.Stmt{Kind: k, Name: s, Args: args}
}

func name(s string) api.Expr { return expr(api.ExName, s) }

func fn(params []string, body ...api.Stmt) api.Expr {
	return api.Expr{Kind: api.ExFn, Params: params, Body: body}
}

func newVar(s string, x api.Expr) api.Stmt { return stmt(api.StVar, s, x) }
func do(x api.Expr) api.Stmt               { return stmt(api.StDo, "", x) }

func within(l []api.Stmt) []api.Stmt {
	return []api.Stmt{{Kind: api.StIf, Args: []api.Expr{{Kind: api.ExBool, N: 1}}, Body: l}}
}

var none = api.Expr{}

// copyOf: a tree in other memory, empty lists as nil.
func copyOf(l []api.Stmt) []api.Stmt {
	var c []api.Stmt
	for _, s := range l {
		s.Args, s.Body, s.Else = copyOfExprs(s.Args), copyOf(s.Body), copyOf(s.Else)
		c = append(c, s)
	}
	return c
}

func copyOfExprs(l []api.Expr) []api.Expr {
	var c []api.Expr
	for _, x := range l {
		x.Args, x.Body = copyOfExprs(x.Args), copyOf(x.Body)
		x.Params = append([]string(nil), x.Params...)
		c = append(c, x)
	}
	return c
}

func same(a, b []api.Stmt) bool { return reflect.DeepEqual(copyOf(a), copyOf(b)) }

// brief: a tree's text, as far as it has one, and not too much of it.
func brief(l []api.Stmt) string {
	s, e := parse.Text(l)
	if e != api.OK {
		s = fmt.Sprintf("%+v", l)
	}
	return fmt.Sprintf("%.800s", s)
}

// parsed: the tree of a text.
func parsed(t *testing.T, s string) []api.Stmt {
	t.Helper()
	l, line, e := parse.Parse(s)
	if line != 0 || e != api.OK {
		t.Fatalf("Parse(%.300q): %d, %d", s, line, e)
	}
	return l
}

// told: Names as a text. Each function's locals, with a * behind those that are cells; behind a < its caps, with a ^ ahead of those of the one around.
func told(l []scope.Names) string {
	var fns []string
	for _, f := range l {
		var words []string
		for i, s := range f.Locals {
			if f.Cells[i] {
				s += "*"
			}
			words = append(words, s)
		}
		if len(f.Caps) > 0 {
			words = append(words, "<")
		}
		for _, c := range f.Caps {
			words = append(words, map[bool]string{true: "^"}[c.Up]+fmt.Sprint(c.N))
		}
		fns = append(fns, strings.Join(words, " "))
	}
	return strings.Join(fns, " / ")
}

// wantNames: of a tree that is right.
func wantNames(t *testing.T, l []api.Stmt, want string) {
	t.Helper()
	if line, e := scope.Check(l); line != 0 || e != api.OK {
		t.Errorf("Check(%s) = %d, %d, not 0 and OK", brief(l), line, e)
	}
	fns, e := scope.Fns(l)
	if e != api.OK {
		t.Errorf("Fns(%s): %d, not %q", brief(l), e, want)
		return
	}
	for i, f := range fns {
		if len(f.Locals) != len(f.Cells) {
			t.Fatalf("Fns(%s): function %d has %d locals, %d cells", brief(l), i, len(f.Locals), len(f.Cells))
		}
	}
	if told(fns) != want {
		t.Errorf("Fns(%s) = %q, not %q", brief(l), told(fns), want)
	}
}

// wantFns: of the tree of a text.
func wantFns(t *testing.T, s, want string) {
	t.Helper()
	wantNames(t, parsed(t, s), want)
}

// wantError: of a tree.
func wantError(t *testing.T, l []api.Stmt, line int, want api.Errno) {
	t.Helper()
	if n, e := scope.Check(l); n != line || e != want {
		t.Errorf("Check(%s) = %d, %d, not %d, %d", brief(l), n, e, line, want)
	}
	if fns, e := scope.Fns(l); len(fns) != 0 || e != want {
		t.Errorf("Fns(%s) = %q, %d, not none and %d", brief(l), told(fns), e, want)
	}
}

// wantFault: of the tree of a text, in the line of the @ (which is no part of it).
func wantFault(t *testing.T, want api.Errno, l ...string) {
	t.Helper()
	for _, s := range l {
		ahead, behind, ok := strings.Cut(s, "@")
		if !ok {
			t.Fatalf("%q has no @", s)
		}
		line := strings.Count(ahead, "\n")
		wantError(t, parsed(t, ahead+behind), line, want)
		wantError(t, parsed(t, "nil;\n\n"+ahead+behind+"\nnil;"), line+2, want)
	}
}
