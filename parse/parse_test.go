package parse_test

import (
	"strings"
	"testing"

	"gearbox/api"
)

var keyWords = strings.Fields("var if else while return print throw try catch not and or nil yes no fn")

var a, b, c = name("a"), name("b"), name("c")

// wantFault: ErrSyntax at the word behind each @.
func wantFault(t *testing.T, l ...string) {
	t.Helper()
	for _, s := range l {
		wantError(t, strings.ReplaceAll(s, "@", "\n"), strings.Count(s, "@"), api.ErrSyntax)
		wantError(t, "a;\n"+strings.ReplaceAll(s, "@", " //\n\n")+"\n", 2*strings.Count(s, "@")+1, api.ErrSyntax)
	}
}

// P6.1: the examples of the chapter.
func TestExamples(t *testing.T) {
	wantTree(t, "")
	wantTree(t, "var x = 1 + 2 * 3;", newVar("x", bin("+", num(1), bin("*", num(2), num(3)))))
	wantTree(t, "a[0][1] = f(x)(2);", put(get(a, num(0)), num(1), call(call(name("f"), name("x")), num(2))))
	wantTree(t, "not a == -b and c;", do(and(not(bin("==", a, neg(b))), c)))
	wantTree(t, "if x { y; } else { }", when(name("x"), block(do(name("y"))), nil))
	wantTree(t, "fn f(a, b) { return a; };", do(fn("f", params("a", "b"), give(a))))
	for _, s := range []string{"a < b < c;", "(x) = 1;", "f() = 1;", "1 + not x;", "x = [1,];", "var if = 1;"} {
		wantError(t, s, 0, api.ErrSyntax)
	}
	wantFault(t, "a < b @< c;", "(x) @= 1;", "f() @= 1;", "1 + @not x;", "x = [1,@];", "var @if = 1;")
	wantError(t, "var x = 1\nprint x;", 1, api.ErrSyntax)
	wantError(t, "print 1;\nif x {", 1, api.ErrSyntax)
	wantError(t, "1.5;", 0, api.ErrWord)
	wantTree(t, strings.Repeat("(", 65)+"1"+strings.Repeat(")", 65)+";", do(num(1)))
	wantError(t, strings.Repeat("-", 65)+"1;", 0, api.ErrLimit)
}

// P6.1: expressions of one word.
func TestAtoms(t *testing.T) {
	wantExpr(t, "nil", none)
	wantExpr(t, "yes", truth(1))
	wantExpr(t, "no", truth(0))
	wantExpr(t, "0", num(0))
	wantExpr(t, "9223372036854775807", num(1<<63-1))
	wantExpr(t, `""`, says(""))
	wantExpr(t, `"a\n\\\""`, says("a\n\\\""))
	wantExpr(t, "\"\xff\"", says("\xff"))
	for _, s := range []string{"a", "_", "A1", "Var", "nill", "_if", "fn1", "main", strings.Repeat("x", api.MaxText)} {
		wantExpr(t, s, name(s))
	}
	for _, s := range keyWords { // a text that says a key word, or a sign, is neither
		wantExpr(t, `"`+s+`"`, says(s))
	}
	for _, s := range strings.Fields("( ) { } [ ] , ; : = == != < <= + - * / % # $") {
		wantExpr(t, `"`+s+`"`, says(s))
		wantFault(t, `a @"`+s+`" 1;`)
	}
	wantFault(t, `a @"and" b;`, `a @"or" b;`)
	for _, s := range []string{"var", "if", "else", "while", "return", "print", "throw", "try", "catch", "and", "or"} {
		wantFault(t, "a = @"+s+" ;", "(@"+s+");", "[1, @"+s+"];")
	}
}

// P6.1: operators of each level with one of each level, on both sides.
func TestOperators(t *testing.T) {
	levels := [][]string{{"or"}, {"and"}, {"==", "!=", "<", "<="}, {"+", "-"}, {"*", "/", "%"}}
	join := func(s string, x, y api.Expr) api.Expr {
		switch s {
		case "or":
			return or(x, y)
		case "and":
			return and(x, y)
		}
		return bin(s, x, y)
	}
	for i, l := range levels {
		for _, s := range l {
			wantExpr(t, "a "+s+" b", join(s, a, b))
			for j, m := range levels {
				for _, u := range m {
					text := "a " + s + "\nb " + u + "\nc"
					switch {
					case i == 2 && j == 2:
						wantFault(t, "a "+s+" b @"+u+" c;")
					case j > i:
						wantExpr(t, text, join(s, a, join(u, b, c)))
					default:
						wantExpr(t, text, join(u, join(s, a, b), c))
					}
					wantExpr(t, "(a "+s+" b) "+u+" c", join(u, join(s, a, b), c))
					wantExpr(t, "a "+s+" (b "+u+" c)", join(s, a, join(u, b, c)))
				}
			}
		}
	}
	wantExpr(t, "a or b or c or a", or(or(or(a, b), c), a))
	wantExpr(t, "a-b-c-a", bin("-", bin("-", bin("-", a, b), c), a))
	wantExpr(t, "a*b+c/a-b%c*a", bin("-", bin("+", bin("*", a, b), bin("/", c, a)), bin("*", bin("%", b, c), a)))
	wantExpr(t, "a<b and b!=c or a+1<=c and c", or(and(bin("<", a, b), bin("!=", b, c)), and(bin("<=", bin("+", a, num(1)), c), c)))
	wantFault(t, "a < b + 1 @== c;", "x and a < b @< c;", "not a < b @< c;", "not a + 1 < b @!= c and a;")
}

// P6.1: operators that stand ahead.
func TestAhead(t *testing.T) {
	wantExpr(t, "not a", not(a))
	wantExpr(t, "not not a", not(not(a)))
	wantExpr(t, "not a<b+c", not(bin("<", a, bin("+", b, c))))
	wantExpr(t, "not a and not b or not c", or(and(not(a), not(b)), not(c)))
	wantExpr(t, "a and not not b", and(a, not(not(b))))
	wantExpr(t, "-a", neg(a))
	wantExpr(t, "-5", neg(num(5)))
	wantExpr(t, "--a", neg(neg(a)))
	wantExpr(t, "-#$-a", neg(size(shown(neg(a)))))
	wantExpr(t, "-a+#b*$c", bin("+", neg(a), bin("*", size(b), shown(c))))
	wantExpr(t, "a- -b", bin("-", a, neg(b)))
	wantExpr(t, "a--b", bin("-", a, neg(b)))
	wantExpr(t, "-a[0](b)", neg(call(get(a, num(0)), b)))
	wantExpr(t, "(-a)[0]", get(neg(a), num(0)))
	wantExpr(t, "not -a", not(neg(a)))
	wantExpr(t, "-(not a)", neg(not(a)))
	for _, s := range []string{"-", "#", "$", "a +", "a -", "a *", "a /", "a %", "a ==", "a !=", "a <", "a <=", "1 + a ==", "1 < - a *"} {
		wantFault(t, s+"@not a;", s+"@+ a;", s+"@;", s+"@)")
	}
	wantFault(t, "a @not b;", "a @#b;", "not @and a;", "not @;", "a and @;", "a or @and b;")
}

// P6.1: items, calls, lists, maps, functions.
func TestGreater(t *testing.T) {
	wantExpr(t, "a[b]", get(a, b))
	wantExpr(t, "a[b][c]", get(get(a, b), c))
	wantExpr(t, "a()", call(a))
	wantExpr(t, "a(b)", call(a, b))
	wantExpr(t, "a(b,c,1)", call(a, b, c, num(1)))
	wantExpr(t, "a()()[b](c)", call(get(call(call(a)), b), c))
	wantExpr(t, "1[2]", get(num(1), num(2)))
	wantExpr(t, `"a"(nil)`, call(says("a"), none))
	wantExpr(t, "[]", list())
	wantExpr(t, "[a]", list(a))
	wantExpr(t, "[a,[b],[]]", list(a, list(b), list()))
	wantExpr(t, "[a][b]", get(list(a), b))
	wantExpr(t, "{}", dict())
	wantExpr(t, "{a:b}", dict(a, b))
	wantExpr(t, "{a:b,1:{},{}:a}", dict(a, b, num(1), dict(), dict(), a))
	wantExpr(t, "{a:b}[c]", get(dict(a, b), c))
	wantExpr(t, "{}()", call(dict()))
	wantExpr(t, "fn(){}", fn("", nil))
	wantExpr(t, "fn f(){}", fn("f", nil))
	wantExpr(t, "fn f(a){}", fn("f", params("a")))
	wantExpr(t, "fn(a,b,a){a;b=1;}", fn("", params("a", "b", "a"), do(a), set("b", num(1))))
	wantExpr(t, "fn(){fn(){};}()", call(fn("", nil, do(fn("", nil)))))
	wantExpr(t, "fn(){}+fn(){}", bin("+", fn("", nil), fn("", nil)))
	wantExpr(t, "((a)(b))[(c)]", get(call(a, b), c))
	wantExpr(t, "[a or b,not a,(a)]", list(or(a, b), not(a), a))
	wantFault(t,
		"[a,@];", "[@,a];", "[a @b];", "[a@;", "[a@);", "[a@:b];", "a[@];", "a[b@,c];", "a(@,);", "a(b,@);", "a(b@];", "a(b@;", "a(b@:1);",
		"{a@};", "{a@,b};", "{a:@};", "{a:b,@};", "{@,};", "{a:b @c:a};", "{a:b@:c};", "{a@=1};", "(@);", "(a@,b);", "(a@;", "(a@=1);",
		"fn @{};", "fn @1(){};", `fn @"f"(){};`, "fn f @g(){};", "fn(@1){};", "fn(@if){};", "fn(a,@){};", "fn(a @b){};", "fn(@,){};", "fn() @a;", "fn() @;", "fn @if(){};", "fn(@(a)){};", "fn(){} @fn(){};", "fn(a@=1){};",
		"a@);", "a@];", "a@}", "a@:1;", "a@,b;", "{}@{};", "a @1;", "1 @a;", "a @b;", `a @"b";`, `1 @"b";`, "[]@{};",
	)
}

// P6.1: statements.
func TestStatements(t *testing.T) {
	wantTree(t, "var a = b;", newVar("a", b))
	wantTree(t, "a = b;", set("a", b))
	wantTree(t, "a == b;", do(bin("==", a, b)))
	wantTree(t, "a[1] = b;", put(a, num(1), b))
	wantTree(t, "(a)[1] = b;", put(a, num(1), b))
	wantTree(t, "(a+b)[1] = b;", put(bin("+", a, b), num(1), b))
	wantTree(t, "a()[1] = b;", put(call(a), num(1), b))
	wantTree(t, "a[(1)][b] = (c);", put(get(a, num(1)), b, c))
	wantTree(t, "{}[a] = {};", put(dict(), a, dict()))
	wantTree(t, "[][a] = [];", put(list(), a, list()))
	wantTree(t, `"x"[a] = 1[2];`, put(says("x"), a, get(num(1), num(2))))
	wantTree(t, "fn(){}[a] = fn(){};", put(fn("", nil), a, fn("", nil)))
	wantTree(t, "{a:b};{}[a];{}();", do(dict(a, b)), do(get(dict(), a)), do(call(dict())))
	wantTree(t, "if a {} if b {a;} else {} if c {} else {b;c;}", when(a, nil, nil), when(b, block(do(a)), nil), when(c, nil, block(do(b), do(c))))
	wantTree(t, "if {} {} while {a:b} {{};} {}; if a {} {};", when(dict(), nil, nil), while(dict(a, b), do(dict())), do(dict()), when(a, nil, nil), do(dict()))
	wantTree(t, "if fn(){a;} {b;} else {c;}", when(fn("", nil, do(a)), block(do(b)), block(do(c))))
	wantTree(t, "if a {if b {} else {c;}} else {if b {}}", when(a, block(when(b, nil, block(do(c)))), block(when(b, nil, nil))))
	wantTree(t, "while a {b;while c {}}", while(a, do(b), while(c)))
	wantTree(t, "return a; print b; throw c;", give(a), print(b), throw(c))
	wantTree(t, "return -a; print (b)+c; throw [a];", give(neg(a)), print(bin("+", b, c)), throw(list(a)))
	wantTree(t, "try {} catch e {} try {a;} catch b {c;}", try(nil, "e"), try(block(do(a)), "b", do(c)))
	wantTree(t, "// nothing\n")
	wantFault(t,
		"@;", "a;@;", "a@}", "{a@;}", "@}", "@)", "var @1 = a;", "var @if = a;", "var a@;", "var a @== b;", "var a =@;", "var a@[0] = 1;", `var @"a" = 1;`, "var a = b @= c;", "var a@, b;", "var @(a) = 1;",
		"a =@;", "a = b @= c;", "a = b @c", "a = @= b;", "a[0] =@;", "a[0] = b @= c;", "a[@] = 1;", "a[0][@] = 1;",
		"(a) @= 1;", "((a)) @= 1;", "(a[0]) @= 1;", "-a @= 1;", "-a[0] @= 1;", "#a[0] @= 1;", "not a @= 1;", "not a[0] @= 1;", "a + b @= 1;", "a + b[0] @= 1;", "a or b[0] @= 1;", "a() @= 1;", "a[0]() @= 1;", "1 @= 1;", `"a" @= 1;`, "nil @= 1;", "yes @= 1;", "no @= 1;", "[] @= 1;", "{} @= 1;", "fn(){} @= 1;", "fn f(){} @= 1;",
		"if {} @a;", "if @;", "if a @;", "if a @b;", "if a {} else @b;", "if a {} else @if b {}", "if a {} else {} @else {}", "if a {b @}", "if (a) @b;", "if a {}@;", "if a @= b {}",
		"@else {}", "@catch a {}", "while @;", "while a @;", "while a {} @else {}", "return @;", "return a@}", "print @;", "print a@, b;", "throw @;", "return a @= b;", "print a[0] @= b;",
		"try @a;", "try {} @a;", "try {} catch @{}", "try {} catch @if {}", "try {} catch a@;", "try {} catch a @b {}", "try {} catch @(a) {}", "try {} catch @1 {}",
	)
}

// P6.1: a program that ends too early is told at its last word, wherever the text ends.
func TestEarlyEnds(t *testing.T) {
	const whole = "| var a = b ; | a = - c ; | a [ b ] = { a : b , c : 1 } ; | if not a { return a ; } | else { print [ a , b ] ; } | while a == b { throw a ( b , c ) ; } | try { a ; } catch e { fn f ( a , b ) { } ; } |"
	var words []string
	ends := true
	for _, w := range strings.Fields(whole) {
		switch s := strings.Join(words, "\n"); {
		case w == "|": // a program may end here
			parsed(t, s)
			parsed(t, s+"\n\n// a\n ")
		case !ends:
			wantError(t, s, len(words)-1, api.ErrSyntax)
			wantError(t, s+"\n\n// a\n ", len(words)-1, api.ErrSyntax)
		}
		ends = w == "|"
		if !ends {
			words = append(words, w)
		}
	}
}

// P6.1: key words are no names.
func TestKeyWords(t *testing.T) {
	for _, s := range keyWords {
		wantFault(t, "var @"+s+" = 1;", "fn @"+s+"() {};", "fn(@"+s+") {};", "fn(a, @"+s+") {};", "try {} catch @"+s+" {}")
		wantTree(t, s+"_ = "+s+"1;", set(s+"_", name(s+"1")))
		up := strings.ToUpper(s[:1]) + s[1:]
		wantTree(t, "var "+up+" = fn "+up+"("+up+") {}; try {} catch "+up+" {}", newVar(up, fn(up, params(up))), try(nil, up))
	}
	for _, s := range []string{"else", "catch", "and", "or"} {
		wantFault(t, "@"+s+" = 1;")
	}
}

// P6.1: the errors of lex, and their lines; they are ahead of all others.
func TestWordErrors(t *testing.T) {
	wantError(t, "a;\n&", 1, api.ErrWord)
	wantError(t, "a a\n\n5a;", 2, api.ErrWord)
	wantError(t, "\n\"a\n\";", 1, api.ErrWord)
	wantError(t, strings.Repeat("x", api.MaxText+1)+";", 0, api.ErrWord)
	wantError(t, "\n"+strings.Repeat("-", 100)+"1;\n\n!", 3, api.ErrWord)
	wantError(t, "\n"+strings.Repeat(" ", api.MaxSource), 0, api.ErrLimit)
	wantError(t, "\n)&"+strings.Repeat(" ", api.MaxSource), 0, api.ErrLimit)
	wantTree(t, "1;"+strings.Repeat(" ", api.MaxSource-2), do(num(1)))
}

// P6.1: the line of each part is that of its first word.
func TestLines(t *testing.T) {
	for s, want := range map[string][]int{ // a statement's, then its expressions', each ahead of those in it
		"\n\na;":                        {2, 2},
		"a\n;":                          {0, 0},
		"(\na\n);":                      {0, 1},
		"(\n(\na));":                    {0, 2},
		"a\n+\nb;":                      {0, 0, 0, 2},
		"(\na)\n+\nb;":                  {0, 0, 1, 3},
		"(\na\n+\nb);":                  {0, 1, 1, 3},
		"(\n(\na)\n+\nb);":              {0, 1, 2, 4},
		"((\na\n+\nb)\n*\nc);":          {0, 0, 1, 1, 3, 5},
		"a\n+\nb\n+\nc;":                {0, 0, 0, 0, 2, 4},
		"a\n+\nb\n*\nc;":                {0, 0, 0, 2, 2, 4},
		"(\na)\n==\n(\nb);":             {0, 0, 1, 4},
		"(\na)\nand\nb\nor\n(\nc);":     {0, 0, 0, 1, 3, 6},
		"not\n(\na);":                   {0, 0, 2},
		"(\nnot\na);":                   {0, 1, 2},
		"-\n#\n(\n$\na);":               {0, 0, 1, 3, 4},
		"a\n[\nb\n]\n[\nc];":            {0, 0, 0, 0, 2, 5},
		"(\na)\n[\nb];":                 {0, 0, 1, 3},
		"(\na\n[\nb]);":                 {0, 1, 1, 3},
		"(\na)\n(\nb,\n(\nc));":         {0, 0, 1, 3, 5},
		"[\na,\n(\nb)];":                {0, 0, 1, 3},
		"{\na\n:\nb};":                  {0, 0, 1, 3},
		"(\n[\n]);":                     {0, 1},
		"(\n{\n});":                     {0, 1},
		"var\na\n=\nb;":                 {0, 3},
		"\na\n=\n(\nb);":                {1, 4},
		"\n(\na)\n[\nb\n]\n=\nc;":       {1, 2, 4, 7},
		"\na\n[\n0]\n[\nb\n]\n=\nc;":    {1, 1, 1, 3, 5, 8},
		"return\n(\na)\n;":              {0, 2},
		"print\na;":                     {0, 1},
		"throw\na;":                     {0, 1},
		"\nif\na\n{\n}\nelse\n{\n}":     {1, 2},
		"while\na\n{\n}":                {0, 1},
		"\"\\n\"\n+\n\"\\n\\n\"+\na;":   {0, 0, 0, 0, 2, 3},
		"-\nnil;":                       {0, 0, 1},
		"yes\n<\nno;":                   {0, 0, 0, 2},
		"(\nfn\nf\n(\na\n)\n{\n})\n();": {0, 0, 1},
	} {
		l := parsed(t, s)
		got := []int{l[0].Line}
		var down func(l []api.Expr)
		down = func(l []api.Expr) {
			for _, x := range l {
				got = append(got, x.Line)
				down(x.Args)
			}
		}
		down(l[0].Args)
		if len(l) != 1 || brief(got) != brief(want) {
			t.Errorf("Parse(%q): lines %v, not %v", s, got, want)
		}
	}
	l := parsed(t, "if a {\nb;\n} else {\nc;\n}\ntry {\na;\n}\ncatch\ne {\nb\n= fn (\n) {\nreturn\n1;\n};\n}\n\nwhile a {\na;\n}")
	got := []int{l[0].Body[0].Line, l[0].Else[0].Line, l[1].Line, l[1].Body[0].Line, l[1].Else[0].Line, l[1].Else[0].Args[0].Line, l[1].Else[0].Args[0].Body[0].Line, l[1].Else[0].Args[0].Body[0].Args[0].Line, l[2].Line, l[2].Body[0].Line}
	if want := []int{1, 3, 5, 6, 10, 11, 13, 14, 18, 19}; brief(got) != brief(want) {
		t.Errorf("lines %v, not %v", got, want)
	}
}

// P6.1: at most MaxParts parts.
func TestParts(t *testing.T) {
	half := api.MaxParts / 2
	parsed(t, strings.Repeat("a;", half))
	wantError(t, strings.Repeat("a;", half)+"\na;", 0, api.ErrLimit)
	wantError(t, strings.Repeat("a;", half)+"\ntry{}catch a{}", 0, api.ErrLimit)
	parsed(t, "["+strings.Repeat("a,", api.MaxParts-3)+"a];")
	wantError(t, "["+strings.Repeat("a,", api.MaxParts-2)+"a];", 0, api.ErrLimit)
	parsed(t, "fn("+strings.Repeat("a,", api.MaxParts)+"a){};") // names are no parts
	parsed(t, "{"+strings.Repeat("a:b,", half-2)+"a:b};")
	wantError(t, "{"+strings.Repeat("a:b,", half-1)+"a:b};", 0, api.ErrLimit)
	parsed(t, "if a{"+strings.Repeat("a;", half/2)+"}else{"+strings.Repeat("a;", half/2-1)+"}")
	wantError(t, "if a{"+strings.Repeat("a;", half/2)+"}else{"+strings.Repeat("a;", half/2)+"}", 0, api.ErrLimit)
	parsed(t, "fn(){"+strings.Repeat("a;", half-1)+"};")
	wantError(t, "fn(){"+strings.Repeat("a;", half)+"};", 0, api.ErrLimit)
	parsed(t, strings.Repeat("a[0]=1;", api.MaxParts/4))
	wantError(t, strings.Repeat("a[0]=1;", api.MaxParts/4)+"try{}catch a{}", 0, api.ErrLimit)
	parsed(t, strings.Repeat("try{}catch a{}", api.MaxParts))
	wantError(t, strings.Repeat("try{}catch a{}", api.MaxParts)+"try{}catch a{}", 0, api.ErrLimit)
	wantError(t, strings.Repeat("a;", api.MaxSource/2), 0, api.ErrLimit)
	wantError(t, strings.Repeat("\na;", half+1)+"\n;", half+2, api.ErrSyntax)
	wantError(t, strings.Repeat("a;", half+1)+"\na", 1, api.ErrSyntax)
}

// nests: what may stand around an expression (or, if nothing is last, a statement) any number of times, and once around that; by how much that lies deeper each time.
var nests = []struct {
	ahead, behind string
	deeper        int
	first, last   string
}{
	{"-", "", 1, "", ";"}, {"#", "", 1, "", ";"}, {"$", "", 1, "var a=", ";"}, {"not ", "", 1, "a=", ";"},
	{"[", "]", 1, "", ";"}, {"{1:", "}", 1, "", ";"}, {"{", ":1}", 1, "", ";"},
	{"f(", ")", 1, "", ";"}, {"f[", "]", 1, "", ";"}, {"", "()", 1, "", ";"}, {"", "[1]", 1, "", ";"}, {"", "[1]", 1, "", "[1]=1;"}, {"(", ")[1]", 1, "", ";"},
	{"", "+1", 1, "", ";"}, {"", "*1", 1, "", ";"}, {"", " and 1", 1, "", ";"}, {"", " or 1", 1, "", ";"}, {"1+(", ")", 1, "", ";"}, {"(", ")==1", 1, "print ", ";"}, {"1 and(", ")", 1, "", ";"},
	{"if 1{", "}", 1, "", ""}, {"if 1{}else{", "}", 1, "", ""}, {"while 1{", "}", 1, "", ""}, {"try{", "}catch e{}", 1, "", ""}, {"try{}catch e{", "}", 1, "", ""},
	{"fn(){", "};", 2, "", ""}, {"if 1{return fn(){", "};}", 3, "", ""},
}

// P6.1: parts lie at most MaxDeep deep; brackets are none.
func TestDeep(t *testing.T) {
	for _, c := range nests {
		inner := "a"
		if c.last == "" {
			inner = "a;"
		}
		text := func(n int) string {
			return c.first + strings.Repeat(c.ahead, n) + inner + strings.Repeat(c.behind, n) + c.last
		}
		most := (api.MaxDeep - 2) / c.deeper
		parsed(t, text(most))
		parsed(t, text(most-1))
		wantError(t, "\n"+text(most+1), 0, api.ErrLimit)
		wantError(t, "\n"+text(most+2), 0, api.ErrLimit)
		n := (api.MaxSource - 20) / (len(c.ahead) + len(c.behind))
		wantError(t, "\n"+text(n), 0, api.ErrLimit)
		wantError(t, "\n"+text(n)+"\n)", 2, api.ErrSyntax)
	}
	n := api.MaxSource/2 - 1
	wantTree(t, strings.Repeat("(", n)+"1"+strings.Repeat(")", n)+";", do(num(1)))
	wantError(t, strings.Repeat("(", n)+"\n1"+strings.Repeat(")", n), 1, api.ErrSyntax)
	wantError(t, strings.Repeat("(", n)+"1"+strings.Repeat(")", n)+"=", 0, api.ErrSyntax)
	for _, s := range []string{"(", "[", "{", "-"} {
		wantError(t, "\n"+strings.Repeat(s, api.MaxSource-1), 1, api.ErrSyntax)
	}
}
