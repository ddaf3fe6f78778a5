package parse_test

import (
	"math"
	"strings"
	"testing"

	"gearbox/api"
	"gearbox/parse"
)

// P6.2: the text of each statement.
func TestTextOfStatements(t *testing.T) {
	wantText(t, "")
	wantText(t, "var x = a;\n", newVar("x", a))
	wantText(t, "x = a + b;\n", set("x", bin("+", a, b)))
	wantText(t, "a[b] = c;\n", put(a, b, c))
	wantText(t, "(a + b)[a + b] = a + b;\n", put(bin("+", a, b), bin("+", a, b), bin("+", a, b)))
	wantText(t, "if a {\n}\n", when(a, nil, nil))
	wantText(t, "if a {\nb;\n}\n", when(a, block(do(b)), []api.Stmt{}))
	wantText(t, "if a {\n} else {\nb;\nc;\n}\n", when(a, nil, block(do(b), do(c))))
	wantText(t, "while not a {\nb;\n}\n", while(not(a), do(b)))
	wantText(t, "while a {\n}\n", while(a))
	wantText(t, "try {\n} catch x {\n}\n", try(nil, "x"))
	wantText(t, "try {\na;\n} catch x {\nb;\n}\n", try(block(do(a)), "x", do(b)))
	wantText(t, "return -a;\nprint a or b;\nthrow nil;\na();\n", give(neg(a)), print(or(a, b)), throw(none), do(call(a)))
	wantText(t, "if a {\nif b {\nwhile c {\nx = 1;\n}\n} else {\na;\n}\n}\n", when(a, block(when(b, block(while(c, set("x", num(1)))), block(do(a)))), nil))
}

// P6.2: the text of each expression.
func TestTextOfExpressions(t *testing.T) {
	for s, x := range map[string]api.Expr{
		"nil": none, "yes": truth(1), "no": truth(0), "0": num(0), "9223372036854775807": num(math.MaxInt64), "a": a,
		`""`: says(""), `"\"\\\n"`: says("\"\\\n"), "\"\t\r\x00\xff\xc3é//\"": says("\t\r\x00\xff\xc3é//"), `"\\n"`: says(`\n`),
		"a + b": bin("+", a, b), "a - b": bin("-", a, b), "a * b": bin("*", a, b), "a / b": bin("/", a, b), "a % b": bin("%", a, b),
		"a == b": bin("==", a, b), "a != b": bin("!=", a, b), "a < b": bin("<", a, b), "a <= b": bin("<=", a, b), "a and b": and(a, b), "a or b": or(a, b),
		"not a": not(a), "-a": neg(a), "#a": size(a), "$a": shown(a),
		"[]": list(), "[a]": list(a), "[a, b, c]": list(a, b, c), "{}": dict(), "{a: b}": dict(a, b), "{a: b, b: c}": dict(a, b, b, c),
		"a[b]": get(a, b), "a()": call(a), "a(b)": call(a, b), "a(b, c)": call(a, b, c),
		"fn() {\n}": fn("", nil), "fn f() {\n}": fn("f", nil), "fn(a) {\n}": fn("", params("a")), "fn f(a, b) {\na;\nreturn b;\n}": fn("f", params("a", "b"), do(a), give(b)),
	} {
		wantText(t, s+";\n", do(x))
		wantText(t, "return "+s+";\n", give(x))
		wantText(t, "["+s+", "+s+"];\n", do(list(x, x)))
		wantText(t, "{"+s+": "+s+"};\n", do(dict(x, x)))
		wantText(t, "a["+s+"];\n", do(get(a, x)))
		wantText(t, "a("+s+", "+s+");\n", do(call(a, x, x)))
		wantText(t, "if "+s+" {\n}\n", when(x, nil, nil))
		wantText(t, "a["+s+"] = "+s+";\n", put(a, x, x))
		o := s
		switch x.Kind {
		case api.ExBin, api.ExAnd, api.ExOr, api.ExNot, api.ExNeg, api.ExLen, api.ExShow:
			o = "(" + s + ")"
		}
		for as, y := range map[string]api.Expr{"% + %": bin("+", x, x), "% <= %": bin("<=", x, x), "% and %": and(x, x), "% or %": or(x, x), "not %": not(x), "-%": neg(x), "#%": size(x), "$%": shown(x), "%[a]": get(x, a), "%()": call(x)} {
			wantText(t, strings.ReplaceAll(as, "%", o)+";\n", do(y))
		}
		wantText(t, o+"[a] = b;\n", put(x, a, b))
	}
	for _, s := range []string{"x=(1+2)*-y;", "if a{b();}else{c[1]=nil;}"} {
		want := map[string]string{"x=(1+2)*-y;": "x = (1 + 2) * (-y);\n", "if a{b();}else{c[1]=nil;}": "if a {\nb();\n} else {\nc[1] = nil;\n}\n"}
		wantText(t, want[s], parsed(t, s)...)
	}
}

// P6.2: lines are aside.
func TestTextOfLines(t *testing.T) {
	x := api.Expr{Kind: api.ExName, S: "a", Line: math.MaxInt}
	y := api.Expr{Kind: api.ExNeg, Args: []api.Expr{x}, Line: -5}
	wantText(t, "-a;\n", api.Stmt{Kind: api.StDo, Args: []api.Expr{y}, Line: math.MinInt})
}

// P6.2: the names that may be, wherever there is one.
func TestTextOfNames(t *testing.T) {
	good := []string{"a", "Z", "_", "a0", "_9", "If", "VAR", "nil_", "fn0", "i", strings.Repeat("x", api.MaxText)}
	bad := []string{" ", "a ", " a", "a b", "0", "0a", "9", "-", "a-b", "a.b", "é", "aé", "\xff", "a\x00", "\n", "a\n", "\na", "a//", "//", "(a)", `"a"`, "a;", "$", strings.Repeat("x", api.MaxText+1), strings.Repeat("x", api.MaxSource+1), strings.Repeat(" ", api.MaxSource-1) + "a"}
	bad = append(bad, keyWords...)
	try1 := func(s string, may, empty bool) {
		wantFit(t, newVar(s, none), may)
		wantFit(t, set(s, none), may)
		wantFit(t, try(nil, s), may)
		wantFit(t, do(name(s)), may)
		wantFit(t, do(fn("", params(s))), may)
		wantFit(t, do(fn("", params("a", s, "b"))), may)
		wantFit(t, do(fn(s, nil)), may || empty)
	}
	for _, s := range good {
		try1(s, true, false)
	}
	for _, s := range bad {
		try1(s, false, false)
	}
	try1("", false, true)
	wantFit(t, do(fn("f", params("a", "a", "f"))), true)
}

// P6.2: numbers, texts and signs that may be.
func TestTextOfAtoms(t *testing.T) {
	for _, n := range []int64{0, 1, 2, 10, -1, math.MaxInt64, math.MinInt64} {
		wantFitExpr(t, num(n), n >= 0)
		wantFitExpr(t, truth(n), n == 0 || n == 1)
	}
	for _, s := range []string{"", "a", "if", "\n", "\"", "\\", "\xff\xfe", "\x00", strings.Repeat("\xe2", api.MaxText)} {
		wantFit(t, do(says(s)), true)
	}
	wantFit(t, do(says(strings.Repeat(`"`, api.MaxText))), true)
	wantFit(t, do(says(strings.Repeat("x", api.MaxText+1))), false)
	wantFit(t, do(says(strings.Repeat("x", 1<<22))), false)
	for _, s := range strings.Fields("== != < <= + - * / %") {
		wantFit(t, do(bin(s, a, b)), true)
	}
	for _, s := range strings.Fields("= ! > >= ( ) [ ] , ; : # $ // and or not +- a 1") {
		wantFit(t, do(bin(s, a, b)), false)
	}
	for _, s := range []string{"", " ", "+ ", " +", "==="} {
		wantFit(t, do(bin(s, a, b)), false)
	}
}

// rows: which fields the row of each kind names, and how many Args there may be.
var exprRows = []struct {
	fields string
	args   func(n int) bool
	base   api.Expr
}{
	api.ExNil: {"", just(0), none}, api.ExBool: {"N", just(0), truth(1)}, api.ExInt: {"N", just(0), num(3)}, api.ExText: {"S", just(0), says("x")}, api.ExName: {"S", just(0), name("x")},
	api.ExBin: {"S", just(2), bin("+", a, b)}, api.ExNot: {"", just(1), not(a)}, api.ExNeg: {"", just(1), neg(a)}, api.ExLen: {"", just(1), size(a)}, api.ExShow: {"", just(1), shown(a)},
	api.ExAnd: {"", just(2), and(a, b)}, api.ExOr: {"", just(2), or(a, b)}, api.ExList: {"", func(n int) bool { return true }, list(a)}, api.ExMap: {"", func(n int) bool { return n%2 == 0 }, dict(a, b)},
	api.ExGet: {"", just(2), get(a, b)}, api.ExCall: {"", func(n int) bool { return n > 0 }, call(a)}, api.ExFn: {"SPB", just(0), fn("f", params("p"), do(a))},
}

func just(n int) func(int) bool { return func(m int) bool { return m == n } }

// P6.2: an expression's fields are those of its row, and as many Args as it says.
func TestTextOfExprFields(t *testing.T) {
	for k, row := range exprRows {
		if int(row.base.Kind) != k {
			t.Fatalf("row %d is that of %d", k, row.base.Kind)
		}
		wantFitExpr(t, row.base, true)
		for n := range 7 {
			x := row.base
			x.Args = repeat(n, a)
			wantFit(t, do(x), row.args(n))
			wantFit(t, do(list(a, x)), row.args(n))
		}
		has := func(field string) bool { return strings.Contains(row.fields, field) }
		for _, n := range []int64{1, -1, 2} {
			x := row.base
			x.N = n
			wantFit(t, do(x), has("N") && (n == 1 || n == 2 && k == int(api.ExInt)))
		}
		x := row.base
		x.S = "a"
		wantFit(t, do(x), has("S") && k != int(api.ExBin))
		x = row.base
		x.Params = params("p", "q")
		wantFit(t, do(x), has("P"))
		x = row.base
		x.Body = block(do(a))
		wantFit(t, do(x), has("B"))
		x = row.base
		x.Args, x.Params, x.Body = append([]api.Expr{}, x.Args...), append([]string{}, x.Params...), append([]api.Stmt{}, x.Body...)
		wantFit(t, do(x), true) // empty lists are as none
	}
	for k := len(exprRows); k < 256; k++ {
		for _, l := range [][]api.Expr{nil, {a}, {a, b}} {
			wantFit(t, do(expr(api.ExprKind(k), "", l...)), false)
		}
	}
	wantFitExpr(t, api.Expr{Kind: api.ExFn + 1}, false)
	wantFitExpr(t, api.Expr{N: 1}, false)
}

var stmtRows = []struct {
	fields string
	args   int
	base   api.Stmt
}{
	api.StVar: {"N", 1, newVar("x", a)}, api.StSet: {"N", 1, set("x", a)}, api.StPut: {"", 3, put(a, b, c)}, api.StIf: {"BE", 1, when(a, block(do(a)), block(do(b)))},
	api.StWhile: {"B", 1, while(a, do(b))}, api.StReturn: {"", 1, give(a)}, api.StPrint: {"", 1, print(a)}, api.StThrow: {"", 1, throw(a)},
	api.StTry: {"NBE", 0, try(block(do(a)), "x", do(b))}, api.StDo: {"", 1, do(a)},
}

// P6.2: a statement's fields are those of its row, and as many Args as it says.
func TestTextOfStmtFields(t *testing.T) {
	for k, row := range stmtRows {
		if k == 0 {
			continue
		}
		wantFit(t, row.base, int(row.base.Kind) == k)
		for n := range 6 {
			s := row.base
			s.Args = repeat(n, a)
			wantFit(t, s, n == row.args)
		}
		has := func(field string) bool { return strings.Contains(row.fields, field) }
		s := row.base
		s.Name = "y"
		wantFit(t, s, has("N"))
		s = row.base
		s.Body = block(do(a))
		wantFit(t, s, has("B"))
		s = row.base
		s.Else = block(do(a))
		wantFit(t, s, has("E"))
		s = row.base
		s.Body, s.Else = nil, nil
		wantFit(t, s, true)
		s.Body, s.Else, s.Args = []api.Stmt{}, []api.Stmt{}, append([]api.Expr{}, s.Args...)
		wantFit(t, s, true)
	}
	wantFit(t, api.Stmt{}, false)
	for k := range 256 {
		if k == 0 || k > int(api.StDo) {
			for n := range 4 {
				wantFit(t, stmt(api.StmtKind(k), "", repeat(n, a)...), false)
			}
		}
	}
}

// P6.2: at most MaxParts parts, of a tree that is a text's.
func TestTextOfParts(t *testing.T) {
	half := api.MaxParts / 2
	wantText(t, strings.Repeat("1;\n", half), repeat(half, do(num(1)))...)
	wantTextError(t, api.ErrLimit, append(repeat(half, do(num(1))), do(num(1)))...)
	wantTextError(t, api.ErrLimit, append(repeat(half, do(num(1))), try(nil, "a"))...)
	wantText(t, "["+strings.Repeat("1, ", api.MaxParts-3)+"1];\n", do(list(repeat(api.MaxParts-2, num(1))...)))
	wantTextError(t, api.ErrLimit, do(list(repeat(api.MaxParts-1, num(1))...)))
	wantTextError(t, api.ErrLimit, repeat(200000, try(nil, "a"))...)
	wantTextError(t, api.ErrArg, append(repeat(100000, try(nil, "a")), try(nil, "if"))...)
	wantTextError(t, api.ErrArg, append(repeat(half+1, do(num(1))), do(num(-1)))...)
	wantTextError(t, api.ErrArg, append([]api.Stmt{{}}, repeat(half+1, do(num(1)))...)...)
	wantTextError(t, api.ErrArg, do(list(append(repeat(200000, num(1)), num(-1))...)))
	wantText(t, "fn("+strings.Repeat("a, ", api.MaxParts)+"a) {\n};\n", do(fn("", repeat(api.MaxParts+1, "a"))))
}

// P6.2: parts lie at most MaxDeep deep, of a tree that is a text's.
func TestTextOfDeep(t *testing.T) {
	within := []func(s api.Stmt) api.Stmt{
		func(s api.Stmt) api.Stmt { return when(a, block(s), nil) }, func(s api.Stmt) api.Stmt { return when(a, nil, block(s)) }, func(s api.Stmt) api.Stmt { return while(a, s) },
		func(s api.Stmt) api.Stmt { return try(block(s), "a") }, func(s api.Stmt) api.Stmt { return try(nil, "a", s) },
		func(s api.Stmt) api.Stmt { return do(neg(s.Args[0])) }, func(s api.Stmt) api.Stmt { return do(list(a, s.Args[0])) }, func(s api.Stmt) api.Stmt { return set("a", get(s.Args[0], b)) }, func(s api.Stmt) api.Stmt { return do(dict(b, s.Args[0])) }, func(s api.Stmt) api.Stmt { return give(call(s.Args[0], b)) },
		func(s api.Stmt) api.Stmt { return print(bin("+", s.Args[0], b)) },
	}
	for _, wrap := range within {
		good, bad := do(num(1)), do(num(-1))
		for deep := 2; deep <= 2*api.MaxDeep; deep++ {
			if _, e := parse.Text(block(good)); (e == api.OK) != (deep <= api.MaxDeep) || e != api.OK && e != api.ErrLimit {
				t.Errorf("%d deep: %d", deep, e)
			}
			wantTextError(t, api.ErrArg, bad)
			good, bad = wrap(good), wrap(bad)
		}
		wantTextError(t, api.ErrArg, good, bad)
		wantTextError(t, api.ErrArg, bad, good)
	}
	good, bad := do(num(1)), do(num(-1))
	for i := range 1 << 16 {
		wrap := within[i%5]
		if i%7 < 4 {
			wrap = func(s api.Stmt) api.Stmt { return do(fn("", nil, s)) }
		}
		good, bad = wrap(good), wrap(bad)
	}
	for i := range 1 << 16 {
		good, bad = within[5+i%6](do(fn("", nil, good))), within[5+i%6](do(fn("", nil, bad)))
	}
	wantTextError(t, api.ErrLimit, good)
	wantTextError(t, api.ErrArg, bad)
}

// P6.2: a text has at most MaxSource bytes.
func TestTextOfLength(t *testing.T) {
	line := strings.Repeat("x", 4092) // 4096 bytes, with "", ; and the byte 10
	wantText(t, strings.Repeat(`"`+line+"\";\n", 16), repeat(16, do(says(line)))...)
	wantTextError(t, api.ErrLimit, append(repeat(15, do(says(line))), do(says(line+"x")))...)
	wantTextError(t, api.ErrLimit, append(repeat(15, do(says(line))), do(says(line[1:]+"\n")))...)
	wantText(t, strings.Repeat(`"`+line+"\";\n", 15)+`"`+line[2:]+"\\n\";\n", append(repeat(15, do(says(line))), do(says(line[2:]+"\n")))...)
	wantTextError(t, api.ErrLimit, append(repeat(16, do(says(line))), try(nil, "a"))...)
	wantTextError(t, api.ErrArg, append(repeat(17, do(says(line))), try(nil, "no"))...)
	names := repeat(api.MaxSource/3-3, "a") // fn(a, a) {};
	wantText(t, "fn("+strings.Join(names, ", ")+") {\n};\n", do(fn("", names)))
	wantTextError(t, api.ErrLimit, do(fn("", repeat(api.MaxSource/3, "a"))))
	wantTextError(t, api.ErrLimit, do(fn("", repeat(1000000, "a"))))
	wantTextError(t, api.ErrArg, do(fn("", append(repeat(1000000, "a"), "if"))))
	wantTextError(t, api.ErrLimit, repeat(2000, do(fn("", repeat(1000000, "a"))))...)
	for _, s := range []api.Stmt{ // each of the bits of a text may be the one that is too much
		newVar("a", a), set("a", a), put(a, a, a), when(a, block(do(a)), block(do(a))), while(not(a)), try(nil, "a"), give(a), print(a), throw(a),
		do(fn("f", params("a", "b"), do(a))), do(bin("==", list(a, a), dict(a, a, a, a))), do(call(and(a, a), get(a, a), or(a, a))), do(neg(size(shown(truth(0))))),
	} {
		own, _ := parse.Text(block(s))
		for room := range len(own) + 1 {
			l := repeat(15, do(says(line)))
			l = append(l, do(says(line[:4092-room])), s)
			if text, e := parse.Text(l); (e == api.OK) != (room == len(own)) || e == api.OK && (len(text) != api.MaxSource || !strings.HasSuffix(text, own)) || e != api.OK && (e != api.ErrLimit || text != "") {
				t.Errorf("room for %d of %q: %d bytes, %d", room, own, len(text), e)
			}
		}
	}
}

// R1: lists that share memory, so that a tree has more parts than could be gone through; lists that are within themselves, which no text has.
func TestTextOfSharedLists(t *testing.T) {
	for _, last := range []api.Expr{num(1), num(-1)} {
		want := api.ErrLimit
		if last.N < 0 {
			want = api.ErrArg
		}
		l := []api.Expr{last}
		s := []api.Stmt{do(last)}
		for range 300 {
			l = []api.Expr{list(l...), list(l...)}
			s = []api.Stmt{{Kind: api.StIf, Args: []api.Expr{a}, Body: s, Else: s}, {Kind: api.StTry, Name: "a", Body: s, Else: s}}
		}
		wantTextError(t, want, do(list(l...)))
		wantTextError(t, want, s...)
	}
	l := []api.Expr{num(1), num(2)}
	wantText(t, "[[1, 2], [1, 2], [1]];\n", do(list(list(l...), list(l...), list(l[:1]...))))
	own := make([]api.Stmt, 2)
	own[0], own[1] = do(a), api.Stmt{Kind: api.StWhile, Args: []api.Expr{a}, Body: own}
	wantTextError(t, api.ErrArg, own...)
	wantTextError(t, api.ErrArg, do(a), when(a, nil, own))
	own[1] = api.Stmt{Kind: api.StTry, Name: "a", Else: own[1:]}
	wantTextError(t, api.ErrArg, own...)
	x := make([]api.Expr, 3)
	x[0], x[1], x[2] = a, list(a), api.Expr{Kind: api.ExList, Args: x}
	wantTextError(t, api.ErrArg, do(list(x...)))
	x[2] = fn("", nil, do(neg(a)))
	x[2].Body[0].Args = []api.Expr{{Kind: api.ExList, Args: x}}
	wantTextError(t, api.ErrArg, do(list(x...)))
	wantTextError(t, api.ErrArg, do(list(x[2])))
	x[2].Body[0].Args = x[:1]
	wantText(t, "[a, [a], fn() {\na;\n}];\n", do(list(x...)))
}
