package gen_test

import (
	"strings"
	"testing"

	"gearbox/api"
	"gearbox/gen"
	"gearbox/parse"
)

// row: so many, with commas between.
func row(item string, n int) string {
	return strings.TrimSuffix(strings.Repeat(item+", ", n), ", ")
}

// full: a list whose last item is written where the stack is as deep as this already.
func full(deep int, last string) string { return "[" + row("nil", deep) + ", " + last + "]" }

func wantRight(t *testing.T, l ...string) {
	t.Helper()
	for _, s := range l {
		harmless(t, of(t, s))
	}
}

// P8.1: a stack that is as deep as may be, and one that would be deeper, by each row of code.
func TestStackLimit(t *testing.T) {
	wantRight(t,
		"["+row("nil", 256)+"];", "({"+row("nil: nil", 128)+"});", "nil("+row("nil", 255)+");", full(128, full(127, "nil"))+";", full(255, "[]")+";",
		full(254, "nil and nil")+";", full(254, "nil or nil")+";", full(254, "nil + nil")+";", full(254, "nil[nil]")+";", full(254, "nil(nil)")+";", full(255, "nil()")+";", full(255, "fn () { nil and nil; }")+";", full(255, "-#$(not nil)")+";", full(255, "{}")+";", full(254, "{nil: nil}")+";",
		full(254, "(nil and nil) and nil")+";", full(254, "nil or (nil or nil)")+";", full(253, "nil + (nil and nil)")+";", full(254, "(nil and nil) + nil")+";",
		"nil["+full(254, "nil")+"] = nil;", "nil[nil] = "+full(253, "nil")+";", full(255, "nil")+"[nil] = nil;", "var x = "+full(255, "nil")+";", "var x = "+full(255, "fn () { x; }")+";", "var x = 1; x = "+full(255, "x")+";", "var x = 1; x = "+full(255, "fn () { x; }")+";",
		"if "+full(255, "nil")+" { "+full(255, "nil")+"; } else { "+full(255, "nil")+"; }", "while "+full(255, "nil")+" { "+full(255, "nil")+"; }", "try { "+full(255, "nil")+"; } catch c { "+full(255, "c")+"; }", "return "+full(255, "nil")+"; print "+full(255, "nil")+";", strings.Repeat(full(255, "nil")+";", 15),
		full(255, "nil")+" and "+full(255, "nil")+";", full(255, "nil")+" or "+full(255, "nil")+";", "fn () { "+full(255, "nil")+"; };", full(200, "fn () { return "+full(255, "nil")+"; }")+";",
	)
	wantFault(t, api.ErrLimit,
		"@\n["+row("nil", 257)+"];", "@\n({"+row("nil: nil", 129)+"});", "@nil("+row("nil", 256)+");", "@"+full(128, full(128, "nil"))+";", "@"+full(256, "[]")+";",
		"@"+full(255, "nil and nil")+";", "@"+full(255, "nil or nil")+";", "@"+full(255, "nil + nil")+";", "@"+full(255, "nil[nil]")+";", "@"+full(255, "nil(nil)")+";", "@"+full(256, "nil()")+";", "@"+full(256, "fn () { }")+";", "@"+full(256, "-nil")+";", "@"+full(256, "{}")+";", "@"+full(255, "{nil: nil}")+";",
		"@"+full(255, "(nil and nil) and nil")+";", "@"+full(254, "nil + (nil and nil)")+";", "@"+full(254, "nil + (nil or nil)")+";", "@"+full(255, "(nil and nil) + nil")+";",
		"@nil["+full(255, "nil")+"] = nil;", "@nil[nil] = "+full(254, "nil")+";", "@"+full(256, "nil")+"[nil] = nil;", "@var x = "+full(256, "nil")+";", "@var x = "+full(256, "fn () { x; }")+";", "@var x = 1; x = "+full(256, "x")+";",
		"@if "+full(256, "nil")+" { }", "@if nil { "+full(256, "nil")+"; }", "@if nil { } else { "+full(256, "nil")+"; }", "@while "+full(256, "nil")+" { }", "@while nil { "+full(256, "nil")+"; }", "@try { "+full(256, "nil")+"; } catch c { }", "@try { nil; } catch c { "+full(256, "nil")+"; }",
		"@return "+full(256, "nil")+";", "@print "+full(256, "nil")+";", "@throw "+full(256, "nil")+";", "@"+full(255, "nil")+" and "+full(256, "nil")+";", "@nil or "+full(256, "nil")+";", "@nil + "+full(255, "nil")+";",
		"@fn () { "+full(256, "nil")+"; };", "@fn () { };\nfn () {\nfn () {\n"+full(256, "nil")+"; };\n};\nnil;", "@"+full(200, "fn () { return "+full(256, "nil")+"; }")+";",
	)
	// What is never come to is code, too; and an OpList of so many may not be.
	wantFault(t, api.ErrLimit, "@return nil; "+full(256, "nil")+";", "@throw nil; "+full(256, "nil")+";", "@try { } catch c { "+full(256, "nil")+"; }", "@while yes { } "+full(256, "nil")+";")
}

// P8.1: each expression's code leaves one value more, each statement's none: what stands ahead makes a stack neither deeper nor less deep.
func TestStackAhead(t *testing.T) {
	for _, s := range []string{
		"var x = nil;", "var x = nil; fn () { x; };", "var x = nil; x = nil;", "var x = nil; x = x; fn () { x = x; };", "nil[nil] = nil;", "if nil { nil; }", "if nil { nil; } else { nil; }", "while nil { nil; }", "return nil;", "print nil;", "throw nil;", "try { nil; } catch c { c; }", "try { } catch c { }", "try { } catch c { fn () { c; }; }",
		"nil; yes; no; 1;", "\"\";", "nil + nil;", "not nil;", "-nil;", "#nil;", "$nil;", "nil and nil;", "nil or nil;", "[];", "[nil];", "[nil, nil, nil];", "({});", "({nil: nil});", "({nil: nil, nil: nil, nil: nil});", "nil[nil];", "nil();", "nil(nil);", "nil(nil, nil, nil);", "fn (a) { a; };", "fn (a) { fn () { a; }; };",
	} {
		for _, ahead := range []string{s, s + s, "if yes { " + s + " }", "fn () { " + s + s + " };"} {
			wantRight(t, ahead+full(255, "nil")+";")
			wantFault(t, api.ErrLimit, "@"+ahead+full(256, "nil")+";")
		}
		wantRight(t, "fn () { "+s+s+full(255, "nil")+"; };")
		wantFault(t, api.ErrLimit, "@fn () { "+s+s+full(256, "nil")+"; };")
	}
}

// P8.1: no tree within the limits of parse comes near to MaxCode instructions: this has about as many as can be.
func TestLongCode(t *testing.T) {
	tree := []api.Stmt{}
	x := none
	for range 5 {
		x = expr(api.ExOr, "", x, x)
	}
	for range 64 {
		tree = append(tree, do(x))
	}
	p, e := gen.Code(tree)
	if e != api.OK || len(p) != 1 || len(p[0].Code) != 64*(31*4+32+1)+2 {
		t.Errorf("%d functions, %d", len(p), e)
	}
	harmless(t, p)
	if _, e := parse.Text(append(tree, do(x))); e != api.ErrLimit {
		t.Errorf("there could be more: %d", e)
	}
}

// P8.1: the errors of scope.Check, which come first.
func TestScopeErrors(t *testing.T) {
	deep := full(256, "nil") + ";"
	wantFault(t, api.ErrName, "@x;", "@x = 1;", "nil;\n@x;", "if yes { var x = 1; }\n@print x;", "try {\n@c;\n} catch c { }", "@fn (a, a) { };", "nil;\n[1,\n@fn (a,\na) { }];", deep+"\n@x;", "fn () {\n"+deep+"\n};\n@x = 1;", "var f = fn f() { };\nfn () {\nfn () {\n@g(); }; };")
	wantFault(t, api.ErrLimit, strings.Repeat("var x = 1;\n", 64)+"@var x = 1;", strings.Repeat("fn () { };\n", 255)+"@fn () { };", deep+"\n"+strings.Repeat("var x = 1;\n", 64)+"@var x = 1;")
	wantRight(t, strings.Repeat("var x = 1;\n", 64), strings.Repeat("fn () { };\n", 255))
	unknown := do(name("x"))
	for _, s := range []api.Stmt{
		{}, {Kind: api.StDo}, {Kind: api.StTry}, {Kind: api.StTry, Name: "if"}, {Kind: api.StDo + 1}, {Kind: 255}, stmt(api.StVar, "a b", none), stmt(api.StVar, "fn", none), stmt(api.StVar, "a"), stmt(api.StSet, "", none), stmt(api.StSet, "a"),
		stmt(api.StPut, "", none, none), stmt(api.StDo, "a", none), stmt(api.StDo, "", none, none), stmt(api.StIf, ""), stmt(api.StWhile, ""), {Kind: api.StPrint, Args: []api.Expr{none}, Body: []api.Stmt{do(none)}}, {Kind: api.StWhile, Args: []api.Expr{none}, Else: []api.Stmt{do(none)}},
		do(name("")), do(name("1")), do(api.Expr{Kind: api.ExInt, N: -1}), do(api.Expr{Kind: api.ExBool, N: 2}), do(api.Expr{Kind: 17}), do(api.Expr{Kind: 255}), do(expr(api.ExBin, "!", none, none)), do(expr(api.ExBin, "+", none)), do(expr(api.ExAnd, "", none)), do(expr(api.ExOr, "")), do(expr(api.ExNot, "")),
		do(expr(api.ExMap, "", none)), do(expr(api.ExCall, "")), do(expr(api.ExGet, "", none)), do(expr(api.ExList, "s")), do(expr(api.ExText, strings.Repeat("a", 4097))), do(api.Expr{Kind: api.ExFn, Params: []string{""}}), do(expr(api.ExFn, "", none)), do(api.Expr{Kind: api.ExFn, Body: []api.Stmt{{}}}),
	} {
		for _, l := range [][]api.Stmt{{s}, {unknown, s}, {s, unknown}, {do(none), s}, {{Kind: api.StTry, Name: "c", Body: []api.Stmt{s}}}} {
			wantError(t, l, api.ErrArg)
		}
	}
	own := []api.Stmt{{Kind: api.StWhile, Args: []api.Expr{none}}}
	own[0].Body = own
	wantError(t, own, api.ErrArg)
	shared := []api.Stmt{do(none)}
	for range 200 {
		shared = []api.Stmt{{Kind: api.StIf, Args: []api.Expr{none}, Body: shared, Else: shared}}
	}
	wantError(t, shared, api.ErrLimit)
}

// P8.2: the errors of parse.Parse, with their lines, ahead of those of scope.Check.
func TestTextErrors(t *testing.T) {
	wantFault(t, api.ErrWord, "@&", "x;\n@5a;", "nil;\n\n@\"a", "print 1;\nx = @!;")
	wantFault(t, api.ErrSyntax, "@print 1", "x;\n@(x) = 1;", "x;\n\n@var if = 1;", "var x = 1\n@print x;", "print 1;\n@if x {", full(256, "nil")+";\n@;")
	wantFault(t, api.ErrLimit, "@"+strings.Repeat(" ", api.MaxSource+1), "@\nx;\n"+strings.Repeat("nil;\n", api.MaxParts/2), "@\n"+strings.Repeat("-", 65)+"x;")
	wantRight(t, strings.Repeat(" ", api.MaxSource), strings.Repeat("nil;", api.MaxParts/2), strings.Repeat("(", 65)+"nil"+strings.Repeat(")", 65)+";")
	// Its text is longer than it: that is an error of parse.Text, and so of scope.Check, with the line 0, ahead of what else is wrong.
	long := `"` + strings.Repeat("a", api.MaxText) + `";`
	tight := "\nx;\n" + strings.Repeat(long, 15) + strings.Repeat("nil;", 900)
	if len(tight) > api.MaxSource {
		t.Fatal(len(tight))
	}
	wantFault(t, api.ErrLimit, "@"+tight)
	wantFault(t, api.ErrName, "\n@"+tight[1:len(tight)-4*200])
}
