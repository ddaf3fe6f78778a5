package gen_test

import (
	"math"
	"slices"
	"strings"
	"testing"

	"gearbox/api"
	"gearbox/gen"
)

// P8.1, P8.2: the examples of the chapter.
func TestExamples(t *testing.T) {
	wantCode(t, "", "")
	wantCode(t, "var x = 1; print x + 1;", "Const Store Load Const Bin 1 Print")
	if f := of(t, "var x = 1; print x + 1;")[0]; f.Locals != 1 || constsTold(f) != "1" {
		t.Errorf("%+v", f)
	}
	wantCode(t, "if yes { 1; } else { 2; }", "Yes Unless 5 Const Pop Jump 7 Const 1 Pop")
	wantCode(t, "while no { }", "No Unless 3 Loop")
	wantCode(t, "var a = 1; var b = 1; var c = 1; a and b or c;", "Const Store Const Store 1 Const Store 2 Load Dup Unless 11 Pop Load 1 Dup Unless 14 Jump 16 Pop Load 2 Pop")
	wantCode(t, "try { throw 1; } catch c { }", "Const Throw Jump 4 Store")
	wantHandlers(t, "try { throw 1; } catch c { }", api.Handler{From: 0, To: 2, At: 3})
	wantCode(t, "var n = 0; var f = fn () { n = n + 1; };", "Nil Store Cell Const CellStore Fn 1 Store 1", "Up Const Bin 1 UpStore")
	if p := of(t, "var n = 0; var f = fn () { n = n + 1; };"); capsTold(p[0]) != "" || capsTold(p[1]) != "0" {
		t.Errorf("%+v", p)
	}
	wantFault(t, api.ErrName, "@print x;")
	wantFault(t, api.ErrSyntax, "@print 1")
	wantFault(t, api.ErrLimit, "@["+strings.Repeat("0, ", 256)+"0];")
}

// P8.1: each statement's row.
func TestStatements(t *testing.T) {
	wantCode(t, "var x = nil;", "Nil Store")
	wantCode(t, "var x = nil; var y = x; var z = y;", "Nil Store Load Store 1 Load 1 Store 2")
	wantCode(t, "var x = x;", "Load Store")
	wantCode(t, "var a = 0; var x = fn () { x; };", "Const Store Nil Store 1 Cell 1 Fn 1 CellStore 1", "Up Pop")
	wantCode(t, "var a = 0; var x = x + 1; fn () { x; };", "Const Store Nil Store 1 Cell 1 CellLoad 1 Const 1 Bin 1 CellStore 1 Fn 1 Pop", "Up Pop")
	wantCode(t, "var a = 0; var x = nil; x = a;", "Const Store Nil Store 1 Load Store 1")
	wantCode(t, "var a = 0; var x = nil; x = a; fn () { x; };", "Const Store Nil Store 1 Cell 1 Nil CellStore 1 Load CellStore 1 Fn 1 Pop", "Up Pop")
	wantCode(t, "var a = 0; var x = nil; fn () { a; x = a; };", "Nil Store Cell Const CellStore Nil Store 1 Cell 1 Nil CellStore 1 Fn 1 Pop", "Up Pop Up UpStore 1")
	wantCode(t, "nil[yes] = no;", "Nil Yes No Put")
	wantCode(t, "var a = 1; var b = 2; var c = 3; a[b] = c;", "Const Store Const 1 Store 1 Const 2 Store 2 Load Load 1 Load 2 Put")
	wantCode(t, "if yes { }", "Yes Unless 2")
	wantCode(t, "if yes { print nil; }", "Yes Unless 4 Nil Print")
	wantCode(t, "if yes { } else { }", "Yes Unless 2")
	wantCode(t, "if yes { } else { print nil; }", "Yes Unless 3 Jump 5 Nil Print")
	wantCode(t, "if yes { print nil; } else { throw nil; return nil; }", "Yes Unless 5 Nil Print Jump 9 Nil Throw Nil Return")
	wantCode(t, "nil; if yes { if no { } else { nil; } } else { if nil { nil; } }", "Nil Pop Yes Unless 10 No Unless 7 Jump 9 Nil Pop Jump 14 Nil Unless 14 Nil Pop")
	wantCode(t, "nil; while yes { print nil; }", "Nil Pop Yes Unless 7 Nil Print Loop 2")
	wantCode(t, "while yes { while no { } if nil { } }", "Yes Unless 8 No Unless 5 Loop 2 Nil Unless 7 Loop")
	wantCode(t, "return nil; return yes;", "Nil Return Yes Return")
	wantCode(t, "print nil; throw no; nil;", "Nil Print No Throw Nil Pop")
	wantCode(t, "var x = nil; try { print x; } catch c { print c; }", "Nil Store Load Print Jump 8 Store 1 Load 1 Print")
	wantCode(t, "try { } catch c { }", "Jump 2 Store")
	wantCode(t, "try { } catch c { print c; c = nil; }", "Jump 6 Store Load Print Nil Store")
	wantCode(t, "var a = nil; try { nil; } catch c { fn () { c; }; }", "Nil Store Nil Pop Jump 9 Store 1 Cell 1 Fn 1 Pop", "Up Pop")
	wantCode(t, "try { var a = nil; } catch b { var c = b; } var d = nil;", "Nil Store Jump 6 Store 1 Load 1 Store 2 Nil Store 3")
}

// P8.1: each expression's row.
func TestExpressions(t *testing.T) {
	wantCode(t, "nil; yes; no;", "Nil Pop Yes Pop No Pop")
	wantCode(t, `7; "a"; 7; "a"; 8;`, "Const Pop Const 1 Pop Const Pop Const 1 Pop Const 2 Pop")
	wantCode(t, "var a = nil; var b = nil; a; b;", "Nil Store Nil Store 1 Load Pop Load 1 Pop")
	wantCode(t, "var a = nil; var b = nil; b; fn () { b; };", "Nil Store Nil Store 1 Cell 1 Nil CellStore 1 CellLoad 1 Pop Fn 1 Pop", "Up Pop")
	for i, sign := range []string{"+", "-", "*", "/", "%", "<", "<=", "==", "!="} {
		wantCode(t, "yes "+sign+" no;", "Yes No Bin "+string(rune('1'+i))+" Pop")
	}
	wantCode(t, "not nil; -nil; #nil; $nil;", "Nil Not Pop Nil Neg Pop Nil Len Pop Nil Show Pop")
	wantCode(t, "nil and yes;", "Nil Dup Unless 5 Pop Yes Pop")
	wantCode(t, "nil or yes;", "Nil Dup Unless 4 Jump 6 Pop Yes Pop")
	wantCode(t, "nil; nil and yes and no;", "Nil Pop Nil Dup Unless 7 Pop Yes Dup Unless 11 Pop No Pop")
	wantCode(t, "nil or yes or no;", "Nil Dup Unless 4 Jump 6 Pop Yes Dup Unless 9 Jump 11 Pop No Pop")
	wantCode(t, "nil and (yes or no);", "Nil Dup Unless 10 Pop Yes Dup Unless 8 Jump 10 Pop No Pop")
	wantCode(t, "nil or (yes and no);", "Nil Dup Unless 4 Jump 10 Pop Yes Dup Unless 10 Pop No Pop")
	wantCode(t, "[]; [nil]; [nil, yes, no];", "List Pop Nil List 1 Pop Nil Yes No List 3 Pop")
	wantCode(t, "({}); [{nil: yes}]; [{nil: yes, no: nil}];", "Map Pop Nil Yes Map 1 List 1 Pop Nil Yes No Nil Map 2 List 1 Pop")
	wantCode(t, "nil[yes]; nil[yes][no];", "Nil Yes Get Pop Nil Yes Get No Get Pop")
	wantCode(t, "nil(); nil(yes); nil(yes, no); nil(yes)(no, nil);", "Nil Call Pop Nil Yes Call 1 Pop Nil Yes No Call 2 Pop Nil Yes Call 1 No Nil Call 2 Pop")
	wantCode(t, "fn () { }; fn () { };", "Fn 1 Pop Fn 2 Pop", "", "")
	wantCode(t, "nil + (yes - no) * -nil < $nil;", "Nil Yes No Bin 2 Nil Neg Bin 3 Bin 1 Nil Show Bin 6 Pop")
}

// P8.1: functions, in the order in which they begin; what each of them is, beside its code.
func TestFunctions(t *testing.T) {
	wantCode(t, "fn () { fn () { print yes; }; print no; }; fn () { print nil; };", "Fn 1 Pop Fn 3 Pop", "Fn 2 Pop No Print", "Yes Print", "Nil Print")
	wantCode(t, "[fn () { yes; }, fn () { no; }(fn () { nil; })];", "Fn 1 Fn 2 Fn 3 Call 1 List 2 Pop", "Yes Pop", "No Pop", "Nil Pop")
	wantCode(t, "if fn () { yes; } { fn () { no; }; } else { fn () { nil; }; } try { fn () { 1; }; } catch c { fn () { 2; }; }",
		"Fn 1 Unless 5 Fn 2 Pop Jump 7 Fn 3 Pop Fn 4 Pop Jump 13 Store Fn 5 Pop", "Yes Pop", "No Pop", "Nil Pop", "Const Pop", "Const Pop")
	wantCode(t, "fn (a, b, c) { fn () { a; c; }; b; a; };", "Fn 1 Pop", "Cell Cell 2 Fn 2 Pop Load 1 Pop CellLoad Pop", "Up Pop Up 1 Pop")
	wantCode(t, "fn (a) { a = a; };", "Fn 1 Pop", "Load Store")
	wantCode(t, "var a = 1; fn (b) { fn (c) { a; b; fn () { c = b; b = a; }; }; };", "Nil Store Cell Const CellStore Fn 1 Pop", "Cell Fn 2 Pop", "Cell Up Pop Up 1 Pop Fn 3 Pop", "Up 1 UpStore Up 2 UpStore 1")
	p := of(t, "var n = 0; var f = fn g(a, b) { var c = n; try { } catch d { var e = 1; } return fn () { return n + b; }; }; fn () { };")
	for i, want := range []struct {
		name           string
		params, locals int
		caps           string
	}{{"", 0, 2, ""}, {"g", 2, 5, "0"}, {"", 0, 0, "^0 1"}, {"", 0, 0, ""}} {
		if f := p[i]; f.Name != want.name || f.Params != want.params || f.Locals != want.locals || capsTold(f) != want.caps {
			t.Errorf("function %d: %q, %d, %d, %q", i, f.Name, f.Params, f.Locals, capsTold(f))
		}
	}
	wantCode(t, strings.Repeat("fn () { };", 255), append([]string{fnsMade(255)}, make([]string, 255)...)...)
}

func fnsMade(n int) string {
	var l []string
	for i := range n {
		l = append(l, told(api.Fn{Code: []api.Ins{{Op: api.OpFn, A: i + 1}, {Op: api.OpPop}}}))
	}
	return strings.Join(l, " ")
}

// P8.1: a name means what was come to last, and is known no longer than it should be.
func TestNames(t *testing.T) {
	wantCode(t, "var x = nil; var x = x; x;", "Nil Store Load 1 Store 1 Load 1 Pop")
	wantCode(t, "var x = nil; if x { var x = yes; x; } else { x; var x = no; x; } x;", "Nil Store Load Unless 9 Yes Store 1 Load 1 Pop Jump 15 Load Pop No Store 2 Load 2 Pop Load Pop")
	wantCode(t, "var x = nil; while x { var x = yes; x = x; } x;", "Nil Store Load Unless 9 Yes Store 1 Load 1 Store 1 Loop 2 Load Pop")
	wantCode(t, "var x = nil; try { var x = yes; x; } catch x { x; var x = no; x; } x;", "Nil Store Yes Store 1 Load 1 Pop Jump 14 Store 2 Load 2 Pop No Store 3 Load 3 Pop Load Pop")
	wantCode(t, "var x = nil; fn (x) { x; }; x;", "Nil Store Fn 1 Pop Load Pop", "Load Pop")
	wantCode(t, "var x = nil; fn (x) { fn () { x; }; var x = nil; x; }; x;", "Nil Store Fn 1 Pop Load Pop", "Cell Fn 2 Pop Nil Store 1 Load 1 Pop", "Up Pop")
	wantCode(t, "var x = nil; fn () { x; var x = x; x; }; x;", "Nil Store Cell Nil CellStore Fn 1 Pop CellLoad Pop", "Up Pop Load Store Load Pop")
	wantCode(t, "var x = nil; fn () { x; }; var x = yes; fn () { x; };", "Nil Store Cell Nil CellStore Fn 1 Pop Nil Store 1 Cell 1 Yes CellStore 1 Fn 2 Pop", "Up Pop", "Up Pop")
	wantCode(t, "var x = nil; fn () { if x { var x = 1; x = 2; } x = 3; };", "Nil Store Cell Nil CellStore Fn 1 Pop", "Up Unless 6 Const Store Const 1 Store Const 2 UpStore")
	wantCode(t, "var f = nil; fn f() { f; };", "Nil Store Cell Nil CellStore Fn 1 Pop", "Up Pop")
}

// P8.1: constants, unlike ones, in the order in which they first come, each function's own.
func TestConstants(t *testing.T) {
	for s, want := range map[string]string{
		"": "", "nil; yes; no;": "", "1; 1; 1;": "1", "2; 1; 2; 0;": "2 1 0", `"a"; "b"; "a"; "";`: `"a" "b" ""`,
		`1; "1"; 0; ""; "0";`: `1 "1" 0 "" "0"`, "9223372036854775807; 9223372036854775806;": "9223372036854775807 9223372036854775806",
		"3[2] = 1;": "3 2 1", "[3, {2: 1}, 4(5)[6]];": "3 2 1 4 5 6", "if 3 { 2; } else { 1; }": "3 2 1", "while 3 { 2; 3; }": "3 2", "try { 3; } catch c { 2; }": "3 2",
		"3 and 2 or 1;": "3 2 1", "-1; 1 - 1;": "1", `"\n\"\\";`: `"\n\"\\"`, "1; fn () { 2; 3; }; 4;": "1 4",
	} {
		if f := of(t, s)[0]; constsTold(f) != want {
			t.Errorf("Of(%q): constants %q, not %q", s, constsTold(f), want)
		}
	}
	p := of(t, "1; 2; fn () { 2; fn () { 3; 1; }; 1; }; fn () { }; fn () { 2; };")
	for i, want := range []string{"1 2", "2 1", "3 1", "", "2"} {
		if constsTold(p[i]) != want {
			t.Errorf("function %d: %q, not %q", i, constsTold(p[i]), want)
		}
	}
	long := strings.Repeat("a", api.MaxText)
	if f := of(t, `"`+long+`"; "`+long[1:]+`"; "`+long+`";`)[0]; !slices.Equal(f.Consts, []api.Const{{Kind: api.Text, S: long}, {Kind: api.Text, S: long[1:]}}) || told(f) != "Const Pop Const 1 Pop Const Pop Nil Return" {
		t.Errorf("long texts: %s", told(f))
	}
}

func wantHandlers(t *testing.T, s string, want ...api.Handler) {
	t.Helper()
	if f := of(t, s)[0]; !slices.Equal(f.Handlers, want) {
		t.Errorf("Of(%q): handlers %v, not %v", s, f.Handlers, want)
	}
}

// P8.1: handlers, in the order in which their bodies end; of an empty body none.
func TestHandlers(t *testing.T) {
	wantHandlers(t, "")
	wantHandlers(t, "try { } catch c { 1; }")
	wantHandlers(t, "1; try { 1; } catch c { 1; } 1;", api.Handler{From: 2, To: 4, At: 5})
	wantHandlers(t, "try { try { 1; } catch c { } } catch d { try { 2; } catch e { } } try { } catch g { }", api.Handler{From: 0, To: 2, At: 3}, api.Handler{From: 0, To: 4, At: 5}, api.Handler{From: 6, To: 8, At: 9})
	wantHandlers(t, "try { try { } catch c { } } catch d { }", api.Handler{From: 0, To: 2, At: 3})
	wantHandlers(t, "try { 1; try { 2; } catch c { 3; } 4; } catch d { }", api.Handler{From: 2, To: 4, At: 5}, api.Handler{From: 0, To: 10, At: 11})
	wantHandlers(t, "try { } catch a { try { 1; } catch b { } }", api.Handler{From: 2, To: 4, At: 5})
	wantHandlers(t, "while yes { try { return 1; } catch a { } try { throw 1; } catch b { } }", api.Handler{From: 2, To: 4, At: 5}, api.Handler{From: 6, To: 8, At: 9})
	wantHandlers(t, "fn () { try { 1; } catch a { } };")
	p := of(t, "try { fn (a) { try { a; } catch b { fn () { a; }; } }; } catch c { }")
	if !slices.Equal(p[0].Handlers, []api.Handler{{From: 0, To: 2, At: 3}}) || !slices.Equal(p[1].Handlers, []api.Handler{{From: 1, To: 3, At: 4}}) || len(p[2].Handlers) != 0 {
		t.Errorf("%+v", p)
	}
}

// wantLines: of the main function's instructions, or of another one's.
func wantLines(t *testing.T, s string, fn int, want ...int) {
	t.Helper()
	if f := of(t, s)[fn]; !slices.Equal(f.Lines, want) {
		t.Errorf("Of(%q): lines %v of %s, not %v", s, f.Lines, told(f), want)
	}
}

// P8.1: of each instruction the line of what it stands in the row of.
func TestLines(t *testing.T) {
	wantLines(t, "", 0, 0, 0)
	wantLines(t, "\n\n", 0, 0, 0)
	wantLines(t, "\nvar\nx =\nnil;", 0, 3, 1, 0, 0)
	wantLines(t, "\nvar x =\nfn (\n) {\nx; };", 0, 1, 1, 1, 2, 1, 0, 0)
	wantLines(t, "\nvar x =\nfn (\n) {\nx; };", 1, 4, 4, 2, 2)
	wantLines(t, "fn\n(a, b) {\nfn () {\na; b; }; };", 1, 0, 0, 2, 2, 0, 0)
	wantLines(t, "\nvar x = 1;\nx\n=\nnil;", 0, 1, 1, 4, 2, 0, 0)
	wantLines(t, "\nnil[\nyes] =\nno;", 0, 1, 2, 3, 1, 0, 0)
	wantLines(t, "\nif\nyes {\nnil;\n} else {\nno; }", 0, 2, 1, 3, 3, 1, 5, 5, 0, 0)
	wantLines(t, "\nwhile\nyes {\nnil;\n}", 0, 2, 1, 3, 3, 1, 0, 0)
	wantLines(t, "\nreturn\nnil; print\nnil; throw\nnil;\nnil\n;", 0, 2, 1, 3, 2, 4, 3, 5, 5, 0, 0)
	wantLines(t, "\ntry {\nnil;\n} catch\nc {\nc; }", 0, 2, 2, 1, 1, 5, 5, 0, 0)
	wantLines(t, "\ntry {\nnil;\n} catch\nc {\nfn () { c; }; }", 0, 2, 2, 1, 1, 1, 5, 5, 0, 0)
	wantLines(t, "\nnil\nand\nyes\n;", 0, 1, 1, 1, 1, 3, 1, 0, 0)
	wantLines(t, "\nnil\nor\nyes\n;", 0, 1, 1, 1, 1, 1, 3, 1, 0, 0)
	wantLines(t, "-\n(nil\n+\nyes)\n;", 0, 1, 3, 1, 0, 0, 0, 0)
	wantLines(t, "[\n1,\n{\n2:\n3},\nnil(\n4)[\n5]];", 0, 1, 3, 4, 2, 5, 6, 5, 7, 5, 0, 0, 0, 0)
	wantLines(t, "not\n$\n#\n-\n1;", 0, 4, 3, 2, 1, 0, 0, 0, 0)
	tree := []api.Stmt{{Kind: api.StDo, Line: math.MinInt, Args: []api.Expr{{Kind: api.ExFn, Line: -7, Body: []api.Stmt{{Kind: api.StPrint, Line: math.MaxInt, Args: []api.Expr{{Line: -1}}}}}}}}
	p, e := gen.Code(tree)
	if e != api.OK || !slices.Equal(p[0].Lines, []int{-7, math.MinInt, 0, 0}) || !slices.Equal(p[1].Lines, []int{-1, math.MaxInt, -7, -7}) {
		t.Errorf("%+v, %d", p, e)
	}
}
