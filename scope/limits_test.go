package scope_test

import (
	"strconv"
	"strings"
	"testing"

	"gearbox/api"
	"gearbox/scope"
)

// P7.1: a function has at most MaxLocals locals, of whatever kind, known still or not.
func TestLocalsLimit(t *testing.T) {
	vars := func(n int) string { return strings.Repeat("var x = 1;\n", n) }
	wantFns(t, vars(64), strings.Repeat(" x", 64)[1:])
	wantFault(t, api.ErrLimit,
		vars(64)+"@var x = 1;", vars(64)+"@try { }\ncatch c { }", vars(64)+"if yes {\n@var y = 1;\n}", vars(64)+"@var y =\nz;", vars(64)+"try {\n@var x = 1; } catch c { }", vars(63)+"try { } catch c {\n@var x = 1; }",
		vars(64)+"@try {\nfn () { var y = 1; }; }\ncatch c {\nz; }", vars(63)+"@try {\nvar y = 1; }\ncatch c { }",
		strings.Repeat("if yes {\nvar x = 1; }\n", 64)+"@var x = 1;", strings.Repeat("try { } catch c { }\n", 64)+"@try { } catch c { }", strings.Repeat("while no { fn () { };\nvar x = 1; }\n", 64)+"@var x = 1;",
		"fn () {\n"+vars(64)+"@var x = 1;\n};", "fn (a, b) {\n"+vars(62)+"@var x = 1;\n};", "fn (a, b) {\n"+vars(61)+"try { }\ncatch c {\n@var x = 1;\n}\n};", "fn ("+params(64)+") {\n@var x = 1;\n};", "fn ("+params(64)+") {\n@try { } catch\nx { }\n};",
		"nil +\n@fn (\n"+params(65)+") { };", "@fn ("+params(65)+") {\nz; };", "@fn ("+params(9000)+") { };", "fn ("+params(64)+") {\n@fn (a, "+params(64)+") { };\n};",
	)
	wantFault(t, api.ErrName,
		vars(64)+"@y = 1;", vars(64)+"try {\n@y; }\ncatch c { }", vars(64)+"@y;\nvar z = 1;", "@fn (a, a, "+params(65)+") { };", "fn ("+params(64)+") {\n@q;\nvar q = 1;\n};", vars(63)+"var z =\n@y;\nvar z = 1;", vars(64)+"fn () { var x = 1;\n@y; };\nvar x = 1;",
	)
	var all []string
	for _, s := range strings.Split(params(64), ", ") {
		all = append(all, s+"*")
	}
	full := strings.Join(all, " ")
	use := strings.ReplaceAll(params(64), ", ", "; ") + ";"
	wantFns(t, "fn ("+params(64)+") { fn ("+params(64)+") { fn () { "+use+" }; }; };", " / "+strings.ReplaceAll(full, "*", "")+" / "+full+" / <"+counted("", 64))
	wantFns(t, vars(64)+"fn () { "+vars(64)+"fn () { "+vars(64)+"}; };", strings.Repeat(" x", 64)[1:]+" /"+strings.Repeat(" x", 64)+" /"+strings.Repeat(" x", 64))
}

// counted: so many numbers from 0 on, each with a text ahead.
func counted(ahead string, n int) string {
	s := ""
	for i := range n {
		s += " " + ahead + strconv.Itoa(i)
	}
	return s
}

// P7.1: there are at most MaxFns functions, the main one too, wherever they stand.
func TestFnsLimit(t *testing.T) {
	fns := func(n int) string { return strings.Repeat("fn () { };\n", n) }
	wantFns(t, fns(255), strings.Repeat(" / ", 255))
	wantFault(t, api.ErrLimit,
		fns(255)+"@fn () { };", fns(255)+"var f =\n@fn () { };", fns(255)+"if yes {\nwhile\n@fn () { }\n{ } }", fns(254)+"fn () {\n@fn () { };\n};", fns(254)+"[fn () { },\n@fn () { }];", fns(250)+strings.Repeat("fn () {\n", 5)+"@fn () { };"+strings.Repeat("};\n", 5),
		fns(255)+"@fn (a, a) { };", fns(255)+"@fn ("+params(65)+") { };", fns(255)+"@fn (a, a, "+params(65)+") { };", fns(255)+"@fn () {\nz; };", fns(255)+"@fn () { }\n(z);", "fn () {\n"+fns(254)+"};\n@fn () { };",
	)
	wantFault(t, api.ErrName, fns(255)+"@z;\nfn () { };", fns(255)+"@z =\nfn () { };", fns(255)+"@z(\nfn () { });", fns(254)+"@fn (a, a) { };\nfn () { };", fns(254)+"fn () {\n@z;\nfn () { }; };")
	wantFault(t, api.ErrLimit, fns(254)+"@fn ("+params(65)+") { };\nfn () { };", strings.Repeat("var x = 1;", 64)+fns(255)+"@var x =\nfn () { };", strings.Repeat("var x = 1;", 64)+fns(255)+"nil;\n@fn () { };\nvar x = 1;")
}

// P7.1, P7.2: functions that lie as deep in one another as may be, each with a use of all that are around.
func TestDeepFunctions(t *testing.T) {
	var inner []api.Stmt
	want := ""
	const levels = api.MaxDeep/2 - 1
	for level := levels; level > 0; level-- {
		var body []api.Stmt
		for i := range level {
			body = append(body, do(name("v"+strconv.Itoa(i))))
		}
		own, star := "v"+strconv.Itoa(level), "*"
		if level == levels {
			star = ""
		}
		inner = []api.Stmt{do(fn([]string{own}, append(body, inner...)...)), do(none)}
		want = " / " + own + star + " <" + counted("^", level-1) + " 0" + want
	}
	wantNames(t, append([]api.Stmt{newVar("v0", none)}, inner...), "v0*"+want)
}

// R1: as many uses as may be of names that are as far away as can be.
func TestMany(t *testing.T) {
	vars := strings.Repeat("var x = 1;\n", 62) + "var y = 1;"
	deep := 28
	s := "var far = 1;" + strings.Repeat("fn (z) {\n"+vars, deep) + "[" + strings.Repeat("far,", 300) + "far];" + strings.Repeat("};\n", deep)
	if n, e := scope.Check(parsed(t, s)); n != 0 || e != api.OK {
		t.Errorf("%d, %d", n, e)
	}
	wantFault(t, api.ErrName, strings.ReplaceAll(s, "[far,", "[far,\n@fur,"))
}
