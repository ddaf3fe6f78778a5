package scope_test

import (
	"math"
	"strconv"
	"strings"
	"testing"

	"gearbox/api"
	"gearbox/parse"
)

// P7.1, P7.2: the examples of the chapter.
func TestExamples(t *testing.T) {
	wantFns(t, "var x = 1; print x;", "x")
	wantFault(t, api.ErrName, "@print x;", "@x = 1;")
	wantFns(t, "var x = x;", "x")
	wantFault(t, api.ErrName, "if yes { var x = 1; }\n@print x;", "try { } catch c { c; }\n@c;")
	wantFault(t, api.ErrName, "@fn (a, a) { };", "@fn f() { f(); };")
	wantFns(t, "var f = fn () { f(); };", "f* / < 0")
	wantFns(t, "var a = 1; var f = fn (b) { return a + b; };", "a* f / b < 0")
	wantFns(t, "var a = 1; fn () { var b = a; fn () { b = a; }; };", "a* / b* < 0 / < 0 ^0")
	wantFns(t, "var x = 1; var x = x; if x { var x = 2; }", "x x x")
	wantError(t, parsed(t, strings.Repeat("var x = 1;\n", 65)), 64, api.ErrLimit)
	wantError(t, parsed(t, strings.Repeat("fn () { };\n", 256)), 255, api.ErrLimit)
}

// P7.2: the functions, in the order in which they begin, and the locals of each.
func TestLocals(t *testing.T) {
	wantNames(t, nil, "")
	wantNames(t, []api.Stmt{}, "")
	wantFns(t, "1; print nil;", "")
	wantFns(t, "fn () { };", " / ")
	wantFns(t, "fn f(a, b) { };", " / a b")
	wantFns(t, "var a = fn (b) { var c = fn (d) { }; }; var e = fn (f) { };", "a e / b c / d / f")
	wantFns(t, "[fn (a) { }, {fn (b) { }: fn (c) { }}, fn (d) { }(fn (e) { })[fn (f) { }]];", " / a / b / c / d / e / f")
	wantFns(t, "-fn (a) { } + #fn (b) { } and $fn (c) { } or not fn (d) { } == fn (e) { };", " / a / b / c / d / e")
	wantFns(t, "fn (a) { }[fn (b) { }] = fn (c) { };", " / a / b / c")
	wantFns(t, "fn (b) { fn (a) { var c = 1; }; var d = 2; };", " / b d / a c")
	wantFns(t, "var a = fn () { var b = fn () { var c = 1; }; var d = 2; }; var e = 3;", "a e / b d / c")
	wantFns(t, "if fn (a) { } { fn (b) { }; } else { fn (c) { }; } while fn (d) { } { fn (e) { }; } try { fn (f) { }; } catch g { fn (h) { }; }", "g / a / b / c / d / e / f / h")
	wantFns(t, "if 1 { var a = 1; } else { var b = 1; } while 1 { var c = 1; } try { var d = 1; } catch e { var f = 1; } var g = 1;", "a b c d e f g")
	wantFns(t, "try { try { var a = 1; } catch b { var c = 1; } } catch d { try { } catch e { } }", "a b c d e")
	wantFns(t, "fn (p) { try { var a = 1; } catch b { var c = 1; } return 1; }; throw 1;", " / p a b c")
	wantFns(t, "var x = 1; { }; var x = 2; if x { var x = 3; } while x { var x = 4; } try { var x = 5; } catch x { var x = 6; }", "x x x x x x x")
}

// P7.1: where a var is known.
func TestKnownVars(t *testing.T) {
	wantFns(t, "var x = [x, -x, {x: x}, x(x)[x]]; x[x] = x; x = x; if x { x; } else { x; } while x { x; } try { x; } catch c { x; } return x; print x; throw x;", "x c")
	wantFns(t, "if 1 { var x = 1; if x { while x { x = x; } } x; }", "x")
	wantFns(t, "while 1 { var x = 1; x; }", "x")
	wantFns(t, "try { var x = 1; x; } catch c { var x = 1; x; }", "x c x")
	wantFns(t, "fn () { var x = 1; x; };", " / x")
	wantFault(t, api.ErrName,
		"@x;\nvar x = 1;", "@x = 1;\nvar x = 1;", "@print x;\nvar x = 1;", "if yes {\n@x;\n}\nvar x = 1;",
		"if yes { var x = 1; }\nelse {\n@x; }", "if yes { } else { var x = 1; }\n@x;", "while 1 { var x = 1; }\n@x;", "while @x\n{ var x = 1; }", "if @x\n{ var x = 1; }",
		"try { var x = 1; } catch c {\n@x;\n}", "try { var x = 1; } catch c { }\n@x;", "try { } catch c { var x = 1; }\n@x;",
		"if 1 { if 2 { var x = 1; }\n@x;\n}", "fn () { var x = 1; };\n@x;", "fn () { var x = 1; }\n(@x);", "[fn () { var x = 1; },\n@x];", "var f = fn () { var x = 1; };\n@x = f;",
		"fn () {\n@x;\n};\nvar x = 1;", "fn () { var x = 1; fn () { var y = x; };\n@y;\n};",
		"var x = 1;\n@y = x;", "var a = 1; var b = a; fn (c) { a = b + c +\n@d;\n};",
	)
}

// P7.1: where params and names of StTry are known; a function's own name is not.
func TestKnownOthers(t *testing.T) {
	wantFns(t, "fn (a) { a; a = a; if a { a; } while a { var a = a; } try { a; } catch b { a; } };", " / a a b")
	wantFns(t, "try { } catch c { c; c = c; if c { c; } var c = c; c; }", "c c")
	wantFns(t, "try { } catch c { try { c; } catch c { c; } c; }", "c c")
	wantFns(t, "var c = 1; try { c; } catch c { c; } c;", "c c")
	wantFns(t, "var f = 1; fn f() { f(); };", "f* / < 0")
	wantFns(t, "fn f(f) { f(); };", " / f")
	wantFault(t, api.ErrName,
		"fn (a) { };\n@a;", "fn (a) { }(\n@a);", "[fn (a) { },\n@a];", "[fn (a) { }, fn (b) {\n@a;\n}];", "fn (a) { fn (b) { };\n@b;\n};",
		"try {\n@c;\n} catch c { }", "try { } catch c { }\n@c;", "try { try { } catch c { }\n@c;\n} catch d { }", "try { } catch d { try {\n@c;\n} catch c { } }",
		"var f = fn g() {\n@g();\n};", "fn g() { };\n@g();", "fn g() { fn () {\n@g;\n}; };",
	)
}

// P7.2: a name means the one that was come to last.
func TestHidden(t *testing.T) {
	wantFns(t, "var x = 1; var x = 2; fn () { x; };", "x x* / < 1")
	wantFns(t, "var x = 1; fn () { x; }; var x = 2; fn () { x; }; fn () { x = x; };", "x* x* / < 0 / < 1 / < 1")
	wantFns(t, "var x = 1; if x { fn () { x; }; var x = 2; fn () { x; }; } fn () { x; };", "x* x* / < 0 / < 1 / < 0")
	wantFns(t, "var x = 1; var x = fn () { x; };", "x x* / < 1")
	wantFns(t, "var x = 1; fn (x) { x; fn () { x; }; };", "x / x* / < 0")
	wantFns(t, "var x = 1; fn () { x; var x = 2; x; fn () { x; }; };", "x* / x* < 0 / < 0")
	wantFns(t, "fn (x) { var x = x; fn () { x; }; };", " / x x* / < 1")
	wantFns(t, "var x = 1; try { fn () { x; }; } catch x { fn () { x; }; } fn () { x; };", "x* x* / < 0 / < 1 / < 0")
	wantFns(t, "try { } catch x { fn () { x; }; var x = x; fn () { x; }; }", "x* x* / < 0 / < 1")
	wantFns(t, "var x = 1; fn (x) { }; fn () { x; };", "x* / x / < 0")
	wantFns(t, "var x = 1; fn () { if x { var x = 2; x; } x; };", "x* / x < 0")
	wantFns(t, "var x = 1; var f = fn () { var x = fn () { x; }; };", "x f / x* / < 0")
}

// P7.2: which locals are cells, and by which caps functions come by them.
func TestCells(t *testing.T) {
	wantFns(t, "var a = 1; a = a; if a { a; }", "a")
	wantFns(t, "var a = 1; fn () { a = 1; };", "a* / < 0")
	wantFns(t, "var a = 1; fn () { fn () { a; }; };", "a* / < 0 / < ^0")
	wantFns(t, "var a = 1; fn () { fn () { fn () { a = nil; }; }; };", "a* / < 0 / < ^0 / < ^0")
	wantFns(t, "var a = 1; var b = 2; var c = 3; fn () { c; a; c; b; a; };", "a* b* c* / < 2 0 1")
	wantFns(t, "var a = 1; var b = 2; fn () { b = a; };", "a* b* / < 1 0")
	wantFns(t, "var a = 1; var b = 2; fn () { a[b] = a; };", "a* b* / < 0 1")
	wantFns(t, "var a = 1; var b = 2; fn () { fn () { b; }; a; fn () { a; b; }; };", "a* b* / < 1 0 / < ^0 / < ^1 ^0")
	wantFns(t, "var a = 1; fn (b) { fn (c) { fn () { c; b; a; }; a; }; b; };", "a* / b* < 0 / c* < 0 ^0 / < 0 ^0 ^1")
	wantFns(t, "var a = 1; fn (b) { fn (c) { a; b; fn () { c; b; a; }; }; };", "a* / b* < 0 / c* < ^0 0 / < 0 ^1 ^0")
	wantFns(t, "fn (a, b) { return fn () { return b; }; };", " / a b* / < 1")
	wantFns(t, "fn (a, b) { var c = 1; try { } catch d { fn () { d; c; b; }; } };", " / a b* c* d* / < 3 2 1")
	wantFns(t, "var a = 1; fn () { var b = 2; fn () { a; b; }; }; fn () { fn () { a; }; };", "a* / b* < 0 / < ^0 0 / < 0 / < ^0")
	wantFns(t, "var a = 0; var b = 0; fn () { var c = 0; var d = 0; fn () { b; d; }; fn () { a; c; }; };", "a* b* / c* d* < 1 0 / < ^0 1 / < ^1 0")
	wantFns(t, "var a = 1; fn () { if a { while a { try { a; } catch e { a; } } } };", "a* / e < 0")
	wantFns(t, "var a = 1; print fn (x) { return x; }(a);", "a / x")
	wantFns(t, "var a = 1; var b = 2; fn () { [b, {a: b}, -a, a(b)]; };", "a* b* / < 1 0")
}

// P7.1: two params of one function that are alike, at the function's line, ahead of what is in it and behind what stands ahead of it.
func TestAlikeParams(t *testing.T) {
	wantFns(t, "fn (a, b) { fn (a, b) { }; }; fn (a, A, _a, a0, aa) { };", " / a b / a b / a A _a a0 aa")
	wantFault(t, api.ErrName,
		"nil;\n[1,\n@fn (a,\na) { }];", "@fn (a, b, a) { };", "@fn (b, a, a) { };", "@fn (a, b, c, b) {\nx;\n};", "[\n@x,\nfn (a, a) { }];", "[\n@fn (a, a) { },\nx];",
		"fn (a) {\n@fn (b, b) { };\n};", "fn () {\n@x;\nfn (b, b) { };\n};", "@fn (a, a) {\nfn (b, b) { };\n};", "@x =\nfn (a, a) { };", "var x =\n@fn (a, a) { };",
		"@fn ("+strings.Repeat("a, ", 64)+"a) { };", "@fn ("+params(64)+", p63) { };", "@fn ("+params(9000)+", p8999) { };", "@fn (q, "+params(9000)+", q) { };",
	)
}

// params: so many, no two alike.
func params(n int) string {
	var l []string
	for i := range n {
		l = append(l, "p"+strconv.Itoa(i))
	}
	return strings.Join(l, ", ")
}

// P7.1: the first fault that is come to, in the order of the text; with its own line, or its statement's.
func TestFirstFault(t *testing.T) {
	wantFault(t, api.ErrName,
		"@x =\ny;", "var x = 1; x =\n@y;", "var x =\n@y;", "[1,\n@x,\ny];", "1 +\n@x *\ny;", "{1:\n@x,\ny: z};", "nil(\n@x,\ny);",
		"nil[\n@x] =\ny;", "@x[\ny] = z;", "nil[1] =\n@y;", "if\n@x {\ny; } else {\nz; }", "if 1 {\n@y; } else {\nz; }", "if 1 { } else {\n@z; }", "while\n@x {\ny; }",
		"try {\n@x; } catch c {\ny; }", "try { } catch c {\n@y; }\nz;", "return\n@x;", "print\n@x;", "throw\n@x;", "-\n@x;", "#\n@x;", "$\n@x;", "not\n@x;", "nil and\n@x;", "nil or\n@x;", "nil ==\n@x;",
		"@x(\ny)[\nz];", "fn () {\n@x; }(\ny);", "var f = fn () {\n1;\nreturn\n@x;\n};\ny;",
	)
	wantError(t, []api.Stmt{{Kind: api.StSet, Name: "x", Line: -3, Args: []api.Expr{{Kind: api.ExName, S: "y", Line: 8}}, Body: []api.Stmt{}}}, -3, api.ErrName)
	wantError(t, []api.Stmt{{Kind: api.StDo, Line: 3, Args: []api.Expr{{Kind: api.ExName, S: "y", Line: math.MinInt}}}}, math.MinInt, api.ErrName)
	wantError(t, []api.Stmt{{Kind: api.StDo, Line: 3, Args: []api.Expr{{Kind: api.ExFn, Params: []string{"y", "y"}, Line: math.MaxInt}}}}, math.MaxInt, api.ErrName)
}

// P7.1: the errors of parse.Text come first, with the line 0.
func TestTextErrors(t *testing.T) {
	unknown := api.Stmt{Kind: api.StDo, Line: 7, Args: []api.Expr{{Kind: api.ExName, S: "x", Line: 7}}}
	for _, s := range []api.Stmt{
		{}, {Kind: api.StDo}, {Kind: api.StTry}, {Kind: api.StTry, Name: "if"}, {Kind: api.StDo + 1}, {Kind: 255}, {Kind: api.StVar, Args: []api.Expr{none}}, newVar("a b", none), newVar("fn", none),
		stmt(api.StSet, "", none), stmt(api.StPut, "", none, none), stmt(api.StDo, "a", none), stmt(api.StDo, "", none, none), {Kind: api.StPrint, Args: []api.Expr{none}, Body: []api.Stmt{do(none)}},
		{Kind: api.StWhile, Args: []api.Expr{none}, Else: []api.Stmt{do(none)}}, do(name("")), do(name("1")), do(name("nil")), do(api.Expr{Kind: api.ExInt, N: -1}), do(api.Expr{Kind: api.ExBool, N: 2}), do(api.Expr{Kind: 17}), do(expr(api.ExBin, "!", none, none)),
		do(expr(api.ExMap, "", none)), do(expr(api.ExCall, "")), do(expr(api.ExList, "s")), do(fn([]string{"a", ""})), do(fn([]string{"yes", "yes"})), do(expr(api.ExFn, "", none)), do(fn(nil, api.Stmt{})), do(api.Expr{Params: []string{"a"}}),
	} {
		s.Line = 5
		for _, l := range [][]api.Stmt{{s}, {unknown, s}, {s, unknown}, within([]api.Stmt{unknown, s}), {do(fn([]string{"a", "a"})), s}} {
			if _, e := parse.Text(l); e != api.ErrArg {
				t.Fatalf("Text(%s): %d", brief(l), e)
			}
			wantError(t, l, 0, api.ErrArg)
		}
	}
	own := []api.Stmt{unknown, {Kind: api.StWhile, Line: 4, Args: []api.Expr{none}}}
	own[1].Body = own
	wantError(t, own, 0, api.ErrArg)

	many := make([]api.Stmt, api.MaxParts/2)
	for i := range many {
		many[i] = api.Stmt{Kind: api.StDo, Args: []api.Expr{none}, Line: i}
	}
	wantNames(t, many, "")
	wantError(t, append(many, unknown), 0, api.ErrLimit)
	many[3].Args = unknown.Args
	wantError(t, many, 7, api.ErrName)
	wantError(t, append(many, unknown), 0, api.ErrLimit)

	deep := []api.Stmt{unknown}
	for range api.MaxDeep - 2 {
		deep = within(deep)
	}
	wantError(t, deep, 7, api.ErrName)
	wantError(t, within(deep), 0, api.ErrLimit)

	long := api.Expr{Kind: api.ExText, S: strings.Repeat("\n", 4000), Line: 2}
	wantError(t, []api.Stmt{unknown, do(expr(api.ExList, "", long, long, long, long, long, long, long, long))}, 7, api.ErrName)
	wantError(t, []api.Stmt{unknown, do(expr(api.ExList, "", long, long, long, long, long, long, long, long, long))}, 0, api.ErrLimit)
	wantError(t, []api.Stmt{do(expr(api.ExList, "", long, long, long, long, long, long, long, long, long))}, 0, api.ErrLimit)
}

// R1: lists that share memory, so that there are more parts than could be gone through, or just some.
func TestSharedLists(t *testing.T) {
	l := []api.Stmt{do(name("x"))}
	for range 200 {
		l = []api.Stmt{{Kind: api.StIf, Args: []api.Expr{none}, Body: l, Else: l}}
	}
	wantError(t, l, 0, api.ErrLimit)
	body := []api.Stmt{newVar("b", name("a")), do(fn(nil, do(name("b"))))}
	names := []string{"p", "q"}
	wantNames(t, []api.Stmt{newVar("a", none), do(fn(names, body...)), do(fn(names, body...)), do(fn(names[1:], body...))}, "a* / p q b* < 0 / < 2 / p q b* < 0 / < 2 / q b* < 0 / < 1")
}
