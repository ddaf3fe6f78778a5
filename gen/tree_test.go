package gen_test

import (
	"fmt"
	"reflect"
	"strings"
	"testing"

	"gearbox/api"
	"gearbox/gen"
	"gearbox/parse"
)

// Trees, written shortly.

func expr(k api.ExprKind, s string, args ...api.Expr) api.Expr {
	return api.Expr{Kind: k, S: s, Args: args}
}

func stmt(k api.StmtKind, s string, args ...api.Expr) api.Stmt {
	return api.Stmt{Kind: k, Name: s, Args: args}
}

func name(s string) api.Expr { return expr(api.ExName, s) }

func do(x api.Expr) api.Stmt { return stmt(api.StDo, "", x) }

var none = api.Expr{}

// copyOf: a tree in other memory, empty lists as nil, with lines as told.
func copyOf(l []api.Stmt, line func(int) int) []api.Stmt {
	var c []api.Stmt
	for _, s := range l {
		s.Line = line(s.Line)
		s.Args, s.Body, s.Else = copyOfExprs(s.Args, line), copyOf(s.Body, line), copyOf(s.Else, line)
		c = append(c, s)
	}
	return c
}

func copyOfExprs(l []api.Expr, line func(int) int) []api.Expr {
	var c []api.Expr
	for _, x := range l {
		x.Line = line(x.Line)
		x.Args, x.Body = copyOfExprs(x.Args, line), copyOf(x.Body, line)
		x.Params = append([]string(nil), x.Params...)
		c = append(c, x)
	}
	return c
}

func asItIs(line int) int { return line }

func same(a, b []api.Stmt) bool { return reflect.DeepEqual(copyOf(a, asItIs), copyOf(b, asItIs)) }

// brief: a tree's text, as far as it has one, and not too much of it.
func brief(l []api.Stmt) string {
	s, e := parse.Text(l)
	if e != api.OK {
		s = fmt.Sprintf("%+v", l)
	}
	return fmt.Sprintf("%.800s", s)
}

// parsed: the tree of a text.
func parsed(t *testing.T, s string) []api.Stmt {
	t.Helper()
	l, line, e := parse.Parse(s)
	if line != 0 || e != api.OK {
		t.Fatalf("Parse(%.300q): %d, %d", s, line, e)
	}
	return l
}

var words = [...]string{
	api.OpNone: "None", api.OpConst: "Const", api.OpNil: "Nil", api.OpYes: "Yes", api.OpNo: "No", api.OpLoad: "Load", api.OpStore: "Store",
	api.OpCell: "Cell", api.OpCellLoad: "CellLoad", api.OpCellStore: "CellStore", api.OpUp: "Up", api.OpUpStore: "UpStore", api.OpPop: "Pop", api.OpDup: "Dup",
	api.OpBin: "Bin", api.OpNot: "Not", api.OpNeg: "Neg", api.OpLen: "Len", api.OpShow: "Show", api.OpJump: "Jump", api.OpUnless: "Unless", api.OpLoop: "Loop",
	api.OpList: "List", api.OpMap: "Map", api.OpGet: "Get", api.OpPut: "Put", api.OpFn: "Fn", api.OpCall: "Call", api.OpReturn: "Return", api.OpThrow: "Throw", api.OpPrint: "Print",
}

// told: a function's code as a text, instructions as their words with A, if it is not 0.
func told(f api.Fn) string {
	var l []string
	for _, i := range f.Code {
		s := words[i.Op]
		if i.A != 0 {
			s += " " + fmt.Sprint(i.A)
		}
		l = append(l, s)
	}
	return strings.Join(l, " ")
}

// constsTold: a function's constants, texts in quotes.
func constsTold(f api.Fn) string {
	var l []string
	for _, c := range f.Consts {
		switch {
		case c.Kind == api.Int && c.S == "":
			l = append(l, fmt.Sprint(c.N))
		case c.Kind == api.Text && c.N == 0:
			l = append(l, fmt.Sprintf("%q", c.S))
		default:
			l = append(l, fmt.Sprintf("%+v", c))
		}
	}
	return strings.Join(l, " ")
}

// capsTold: what a function is closed over, with a ^ ahead of what the one around is closed over.
func capsTold(f api.Fn) string {
	var l []string
	for _, c := range f.Caps {
		l = append(l, map[bool]string{true: "^"}[c.Up]+fmt.Sprint(c.N))
	}
	return strings.Join(l, " ")
}

// of: the code of a text that has some; of its tree the same.
func of(t *testing.T, s string) api.Program {
	t.Helper()
	p, line, e := gen.Of(s)
	if line != 0 || e != api.OK || len(p) == 0 {
		t.Fatalf("Of(%.300q): %d, %d", s, line, e)
	}
	q, e := gen.Code(parsed(t, s))
	if e != api.OK || !alike(p, q) {
		t.Fatalf("Code(%.300q) = %+v, %d, not %+v", s, q, e, p)
	}
	return p
}

// wantCode: of a text that has some; of all functions, in order.
func wantCode(t *testing.T, s string, want ...string) {
	t.Helper()
	p := of(t, s)
	if len(p) != len(want) {
		t.Errorf("Of(%.300q): %d functions, not %d", s, len(p), len(want))
		return
	}
	for i, f := range p {
		if told(f) != want[i]+" Nil Return" && told(f) != strings.TrimSpace(want[i]+" Nil Return") {
			t.Errorf("Of(%.300q), function %d: %q, not %q", s, i, told(f), want[i])
		}
	}
}

// wantError: of a tree.
func wantError(t *testing.T, l []api.Stmt, want api.Errno) {
	t.Helper()
	if p, e := gen.Code(l); p != nil || e != want {
		t.Errorf("Code(%s) = %+v, %d, not none and %d", brief(l), p, e, want)
	}
}

// wantFault: of a text, in the line of the @ (which is no part of it); of its tree, if it has one.
func wantFault(t *testing.T, want api.Errno, l ...string) {
	t.Helper()
	for _, s := range l {
		ahead, behind, ok := strings.Cut(s, "@")
		if !ok {
			t.Fatalf("%q has no @", s)
		}
		line := strings.Count(ahead, "\n")
		if p, n, e := gen.Of(ahead + behind); p != nil || n != line || e != want {
			t.Errorf("Of(%.300q) = %+v, %d, %d, not none, %d, %d", s, p, n, e, line, want)
		}
		if tree, _, e := parse.Parse(ahead + behind); e == api.OK {
			wantError(t, tree, want)
		}
	}
}
