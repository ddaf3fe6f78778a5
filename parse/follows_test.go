package parse_test

import (
	"cmp"
	"slices"
	"strconv"
	"strings"
	"testing"
	"unsafe"

	"gearbox/api"
	"gearbox/parse"
)

// Trees of any kind.

func (d *dice) name() string {
	names := []string{"a", "b", "x1", "_", "If", "fns", "y", "not_"}
	return names[d.below(len(names))]
}

func (d *dice) names() []string {
	var l []string
	for range d.below(4) {
		l = append(l, d.name())
	}
	return l
}

func (d *dice) exprs(n, deep int) []api.Expr {
	var l []api.Expr
	for range n {
		l = append(l, d.expr(deep))
	}
	return l
}

func (d *dice) atom() api.Expr {
	switch d.below(6) {
	case 0:
		return none
	case 1:
		return truth(int64(d.below(2)))
	case 2:
		return num([]int64{0, 7, 10, 1<<63 - 1}[d.below(4)])
	case 3:
		return says([]string{"", "a", "if", "+", "\n", `\"`, "// \xff"}[d.below(7)])
	}
	return name(d.name())
}

func (d *dice) expr(deep int) api.Expr {
	if deep <= 0 || d.below(5) == 0 {
		return d.atom()
	}
	deep -= 1 + d.below(2)
	switch k := api.ExBin + api.ExprKind(d.below(12)); k {
	case api.ExBin:
		return expr(k, strings.Fields("== != < <= + - * / %")[d.below(9)], d.exprs(2, deep)...)
	case api.ExNot, api.ExNeg, api.ExLen, api.ExShow:
		return expr(k, "", d.expr(deep))
	case api.ExAnd, api.ExOr, api.ExGet:
		return expr(k, "", d.exprs(2, deep)...)
	case api.ExList:
		return expr(k, "", d.exprs(d.below(4), deep)...)
	case api.ExMap:
		return expr(k, "", d.exprs(2*d.below(3), deep)...)
	case api.ExCall:
		return expr(k, "", d.exprs(1+d.below(3), deep)...)
	default:
		s := ""
		if d.below(2) == 0 {
			s = d.name()
		}
		return fn(s, d.names(), d.stmts(d.below(3), deep)...)
	}
}

func (d *dice) stmts(n, deep int) []api.Stmt {
	var l []api.Stmt
	for range n {
		l = append(l, d.stmt(deep-1))
	}
	return l
}

func (d *dice) stmt(deep int) api.Stmt {
	k := api.StVar + api.StmtKind(d.below(10))
	if deep <= 0 {
		k = api.StDo
	}
	s := api.Stmt{Kind: k}
	switch k {
	case api.StVar, api.StSet:
		s.Name = d.name()
	case api.StPut:
		s.Args = d.exprs(2, deep)
	case api.StIf:
		s.Body, s.Else = d.stmts(d.below(3), deep), d.stmts(d.below(3), deep)
	case api.StWhile:
		s.Body = d.stmts(d.below(3), deep)
	case api.StTry:
		s.Name, s.Body, s.Else = d.name(), d.stmts(d.below(3), deep), d.stmts(d.below(3), deep)
		return s
	}
	s.Args = append(s.Args, d.expr(deep))
	return s
}

// tree: mostly a small one; one that has about as many parts as may be, or lies about as deep, now and then.
func (d *dice) tree(seed int) []api.Stmt {
	switch seed % 40 {
	case 1:
		return d.stmts(300+d.below(400), 4)
	case 2, 3:
		l := d.stmts(1, 3)
		for _, deep := measure(l); deep < 62+d.below(5); _, deep = measure(l) {
			x := fn("", nil, l...)
			if d.below(2) == 0 {
				x = neg(x)
			}
			l = []api.Stmt{do(x)}
			if seed%40 == 3 {
				l = []api.Stmt{while(d.atom(), do(d.atom()), do(x))}
			}
		}
		return l
	}
	return d.stmts(d.below(5), 2+seed%9)
}

// scribe writes a tree with any idle bytes and any brackets that it may have, and puts the lines at which they come to stand on its parts.
type scribe struct {
	*dice
	strings.Builder
	line  int
	plain bool // as few brackets as can be
}

// word: one more; its line.
func (w *scribe) word(s string) int {
	idle := " "
	switch w.below(12) {
	case 0:
		idle = "\n"
	case 1:
		idle = " \t\n\n"
	case 2:
		idle = " // a \"\n"
	case 3, 4, 5, 6:
		if ahead := w.String(); ahead == "" || !inName(ahead[len(ahead)-1]) || !inName(s[0]) {
			idle = ""
		}
	}
	w.WriteString(idle + s)
	w.line += strings.Count(idle, "\n")
	return w.line
}

func inName(c byte) bool {
	return c == '_' || c >= '0' && c <= '9' || c >= 'A' && c <= 'Z' || c >= 'a' && c <= 'z'
}

// The levels of the chapter's grammar, from that of expr on.
const (
	asExpr = iota
	asAnd
	asNot
	asCmp
	asSum
	asProd
	asUn
	asPost
	asPrim
)

func levelOf(x *api.Expr) int {
	switch x.Kind {
	case api.ExOr:
		return asExpr
	case api.ExAnd:
		return asAnd
	case api.ExNot:
		return asNot
	case api.ExNeg, api.ExLen, api.ExShow:
		return asUn
	case api.ExGet, api.ExCall:
		return asPost
	case api.ExBin:
		switch x.S {
		case "+", "-":
			return asSum
		case "*", "/", "%":
			return asProd
		}
		return asCmp
	}
	return asPrim
}

// expr: one that stands where the grammar asks for a level; the line of its first word, brackets too.
func (w *scribe) expr(x *api.Expr, level int) int {
	if levelOf(x) < level || !w.plain && w.below(6) == 0 {
		first := w.word("(")
		w.expr(x, asExpr)
		w.word(")")
		return first
	}
	switch l := levelOf(x); l {
	case asExpr, asAnd:
		x.Line = w.expr(&x.Args[0], l)
		w.word([]string{"or", "and"}[l])
		w.expr(&x.Args[1], l+1)
	case asNot, asUn:
		x.Line = w.word(map[api.ExprKind]string{api.ExNot: "not", api.ExNeg: "-", api.ExLen: "#", api.ExShow: "$"}[x.Kind])
		w.expr(&x.Args[0], l)
	case asCmp:
		x.Line = w.expr(&x.Args[0], asSum)
		w.word(x.S)
		w.expr(&x.Args[1], asSum)
	case asSum, asProd:
		x.Line = w.expr(&x.Args[0], l)
		w.word(x.S)
		w.expr(&x.Args[1], l+1)
	case asPost:
		x.Line = w.expr(&x.Args[0], asPost)
		if x.Kind == api.ExGet {
			w.exprs("[", x.Args[1:], "]")
		} else {
			w.exprs("(", x.Args[1:], ")")
		}
	default:
		w.prim(x)
	}
	return x.Line
}

func (w *scribe) prim(x *api.Expr) {
	switch x.Kind {
	case api.ExNil:
		x.Line = w.word("nil")
	case api.ExBool:
		x.Line = w.word([]string{"no", "yes"}[x.N])
	case api.ExInt:
		x.Line = w.word(strconv.FormatInt(x.N, 10))
	case api.ExText:
		x.Line = w.word(`"` + strings.NewReplacer(`\`, `\\`, `"`, `\"`, "\n", `\n`).Replace(x.S) + `"`)
	case api.ExName:
		x.Line = w.word(x.S)
	case api.ExList:
		x.Line = w.exprs("[", x.Args, "]")
	case api.ExMap:
		x.Line = w.word("{")
		for i := range x.Args {
			if i > 0 {
				w.word([]string{",", ":"}[i%2])
			}
			w.expr(&x.Args[i], asExpr)
		}
		w.word("}")
	case api.ExFn:
		x.Line = w.word("fn")
		if x.S != "" {
			w.word(x.S)
		}
		w.word("(")
		for i, s := range x.Params {
			if i > 0 {
				w.word(",")
			}
			w.word(s)
		}
		w.word(")")
		w.block(x.Body)
	}
}

func (w *scribe) exprs(open string, l []api.Expr, end string) int {
	first := w.word(open)
	for i := range l {
		if i > 0 {
			w.word(",")
		}
		w.expr(&l[i], asExpr)
	}
	w.word(end)
	return first
}

func (w *scribe) block(l []api.Stmt) {
	w.word("{")
	w.stmts(l)
	w.word("}")
}

func (w *scribe) stmts(l []api.Stmt) {
	for i := range l {
		w.stmt(&l[i])
	}
}

func (w *scribe) stmt(s *api.Stmt) {
	words := map[api.StmtKind]string{api.StVar: "var", api.StIf: "if", api.StWhile: "while", api.StReturn: "return", api.StPrint: "print", api.StThrow: "throw", api.StTry: "try"}
	if first := words[s.Kind]; first != "" {
		s.Line = w.word(first)
	}
	switch s.Kind {
	case api.StTry:
		w.block(s.Body)
		w.word("catch")
		w.word(s.Name)
		w.block(s.Else)
	case api.StIf, api.StWhile:
		w.expr(&s.Args[0], asExpr)
		w.block(s.Body)
		if len(s.Else) > 0 || s.Kind == api.StIf && w.below(3) == 0 {
			w.word("else")
			w.block(s.Else)
		}
	case api.StVar:
		w.word(s.Name)
		w.word("=")
		w.ended(&s.Args[0])
	case api.StSet:
		s.Line = w.word(s.Name)
		w.word("=")
		w.ended(&s.Args[0])
	case api.StPut:
		s.Line = w.expr(&s.Args[0], asPost)
		w.exprs("[", s.Args[1:2], "]")
		w.word("=")
		w.ended(&s.Args[2])
	case api.StDo:
		s.Line = w.ended(&s.Args[0])
	default:
		w.ended(&s.Args[0])
	}
}

func (w *scribe) ended(x *api.Expr) int {
	first := w.expr(x, asExpr)
	w.word(";")
	return first
}

// measure: how many parts a tree has, how deep the deepest one lies.
func measure(l []api.Stmt) (parts, deep int) {
	more := func(p, d int) {
		parts += p
		deep = max(deep, d+1)
	}
	for _, s := range l {
		more(1, 0)
		more(measureExprs(s.Args))
		more(measure(s.Body))
		more(measure(s.Else))
	}
	return parts, deep
}

func measureExprs(l []api.Expr) (parts, deep int) {
	for _, x := range l {
		p, d := measureExprs(x.Args)
		q, e := measure(x.Body)
		parts += 1 + p + q
		deep = max(deep, d+1, e+1)
	}
	return parts, deep
}

func small(l []api.Stmt) bool {
	parts, deep := measure(l)
	return parts <= api.MaxParts && deep <= api.MaxDeep
}

// P6.1, P6.2, P6.3: of any tree, written in any way.
func TestFollows(t *testing.T) {
	trees, greatOnes := 0, 0
	lastText, lastTree := "", []api.Stmt(nil)
	for seed := range 1600 {
		d := dice(seed)
		tree := d.tree(seed)
		w := scribe{dice: &d, plain: seed%4 == 0}
		w.stmts(tree)
		s := w.String()
		if len(s) > api.MaxSource/2 || !small(tree) {
			if len(s) <= api.MaxSource {
				wantError(t, s, 0, api.ErrLimit)
			}
			greatOnes++
			continue
		}
		trees++
		l, line, e := parse.Parse(s)
		if !same(l, tree) || line != 0 || e != api.OK {
			t.Errorf("Parse(%q) = %s, %d, %d, not %s", s, brief(l), line, e, brief(tree))
		}
		back(t, tree)
		bothTexts(t, lastText, s, lastTree, tree)
		lastText, lastTree = s, tree
		if t.Failed() {
			t.Fatalf("start %d", seed)
		}
	}
	if trees < 1200 || greatOnes < 30 {
		t.Errorf("too few: %d, %d", trees, greatOnes)
	}
}

// back: P6.2 and P6.3, the text of a tree that is not too great, and the tree of that text.
func back(t *testing.T, tree []api.Stmt) {
	t.Helper()
	want := textOf(tree)
	s, e := parse.Text(tree)
	if len(want) > api.MaxSource {
		if s != "" || e != api.ErrLimit {
			t.Errorf("Text(%s) = %d bytes, %d, but it is too long", brief(tree), len(s), e)
		}
		return
	}
	if s != want || e != api.OK {
		t.Errorf("Text(%s) = %q, %d, not %q", brief(tree), s, e, want)
	}
	if l := parsed(t, s); !alike(l, tree) {
		t.Errorf("Parse(%q) = %s, not %s", s, brief(l), brief(tree))
	}
}

// textOf: a tree's text, as the chapter's tables tell it, whole and without limits.
func textOf(l []api.Stmt) string {
	text := ""
	for _, s := range l {
		e := make([]string, 3)
		for i := range s.Args {
			e[i] = exprText(s.Args[i])
		}
		body, others := textOf(s.Body), textOf(s.Else)
		switch s.Kind {
		case api.StVar:
			text += "var " + s.Name + " = " + e[0] + ";\n"
		case api.StSet:
			text += s.Name + " = " + e[0] + ";\n"
		case api.StPut:
			text += operandText(s.Args[0]) + "[" + e[1] + "] = " + e[2] + ";\n"
		case api.StIf:
			if others != "" {
				others = " else {\n" + others + "}"
			}
			text += "if " + e[0] + " {\n" + body + "}" + others + "\n"
		case api.StWhile:
			text += "while " + e[0] + " {\n" + body + "}\n"
		case api.StTry:
			text += "try {\n" + body + "} catch " + s.Name + " {\n" + others + "}\n"
		default:
			text += map[api.StmtKind]string{api.StReturn: "return ", api.StPrint: "print ", api.StThrow: "throw "}[s.Kind] + e[0] + ";\n"
		}
	}
	return text
}

func operandText(x api.Expr) string {
	if levelOf(&x) < asPost {
		return "(" + exprText(x) + ")"
	}
	return exprText(x)
}

func exprText(x api.Expr) string {
	var e, o []string
	for _, y := range x.Args {
		e, o = append(e, exprText(y)), append(o, operandText(y))
	}
	switch x.Kind {
	case api.ExNil:
		return "nil"
	case api.ExBool:
		return []string{"no", "yes"}[x.N]
	case api.ExInt:
		return strconv.FormatInt(x.N, 10)
	case api.ExText:
		return `"` + strings.ReplaceAll(strings.ReplaceAll(strings.ReplaceAll(x.S, `\`, `\\`), `"`, `\"`), "\n", `\n`) + `"`
	case api.ExName:
		return x.S
	case api.ExBin:
		return o[0] + " " + x.S + " " + o[1]
	case api.ExAnd:
		return o[0] + " and " + o[1]
	case api.ExOr:
		return o[0] + " or " + o[1]
	case api.ExNot:
		return "not " + o[0]
	case api.ExNeg:
		return "-" + o[0]
	case api.ExLen:
		return "#" + o[0]
	case api.ExShow:
		return "$" + o[0]
	case api.ExList:
		return "[" + strings.Join(e, ", ") + "]"
	case api.ExMap:
		var pairs []string
		for i := 0; i < len(e); i += 2 {
			pairs = append(pairs, e[i]+": "+e[i+1])
		}
		return "{" + strings.Join(pairs, ", ") + "}"
	case api.ExGet:
		return o[0] + "[" + e[1] + "]"
	case api.ExCall:
		return o[0] + "(" + strings.Join(e[1:], ", ") + ")"
	}
	first := "fn"
	if x.S != "" {
		first += " " + x.S
	}
	return first + "(" + strings.Join(x.Params, ", ") + ") {\n" + textOf(x.Body) + "}"
}

// bothTexts: P6.3, of two texts with a byte 10 between, and of two trees, which have unlike texts if they are not the same.
func bothTexts(t *testing.T, s, u string, x, y []api.Stmt) {
	t.Helper()
	both := append(append([]api.Stmt{}, x...), y...)
	if small(both) {
		wantTree(t, s+"\n"+u, both...)
	}
	v, e := parse.Text(x)
	w, f := parse.Text(y)
	if e == api.OK && f == api.OK && (v == w) != alike(x, y) {
		t.Errorf("%s and %s: %q and %q", brief(x), brief(y), v, w)
	}
}

// P6.3: the text of what Parse tells is an error just if it would be too long.
func TestTextOfParsed(t *testing.T) {
	for _, s := range []string{
		strings.Repeat("{}[{}]={};", 1024), strings.Repeat("a=1==1;", 1000), strings.Repeat("[a,a,a,a];", 682),
		strings.Repeat("a;", 2048), "fn(" + strings.Repeat("a,", 20000) + "a){};", "fn(" + strings.Repeat("a,", 30000) + "a){};",
		strings.Repeat(`"`+strings.Repeat(`\n`, 2000)+`";`, 16), strings.Repeat(`"`+strings.Repeat(`x`, 4092)+`";`, 16), strings.Repeat("-a+-a*-a;", 455),
	} {
		back(t, parsed(t, s))
	}
}

// lists: where each list of a tree lies, its spare room too.
func lists(l []api.Stmt) [][2]uintptr {
	spans := [][2]uintptr{span(l)}
	for _, s := range l {
		spans = append(append(append(spans, listsOfExprs(s.Args)...), lists(s.Body)...), lists(s.Else)...)
	}
	return spans
}

func listsOfExprs(l []api.Expr) [][2]uintptr {
	spans := [][2]uintptr{span(l)}
	for _, x := range l {
		spans = append(append(append(spans, listsOfExprs(x.Args)...), span(x.Params)), lists(x.Body)...)
	}
	return spans
}

func span[T any](l []T) [2]uintptr {
	var x T
	at := uintptr(unsafe.Pointer(unsafe.SliceData(l)))
	return [2]uintptr{at, at + uintptr(cap(l))*unsafe.Sizeof(x)}
}

// R4: no two lists of an answer share memory, nor do those of two answers; what is handed in stays as it is. R5: an answer hangs on nothing that was asked before.
func TestMemory(t *testing.T) {
	for seed := range 300 {
		d := dice(seed)
		tree := d.stmts(1+d.below(6), 6)
		w := scribe{dice: &d}
		w.stmts(tree)
		s := w.String()
		if len(s) > api.MaxSource || !small(tree) {
			continue
		}
		first, second := parsed(t, s), parsed(t, s)
		spans := append(lists(first), lists(second)...)
		spans = slices.DeleteFunc(spans, func(s [2]uintptr) bool { return s[0] == s[1] })
		slices.SortFunc(spans, func(a, b [2]uintptr) int { return cmp.Compare(a[0], b[0]) })
		for i := range spans[1:] {
			if spans[i][1] > spans[i+1][0] {
				t.Fatalf("Parse(%q): two lists share memory", s)
			}
		}
		full := slices.Grow(first, 3)
		spare := full[:cap(full)]
		for i := len(full); i < len(spare); i++ {
			spare[i] = do(name("spare"))
		}
		old := copyOf(spare, true)
		text, e := parse.Text(full)
		again, f := parse.Text(second)
		if text != again || e != f || !same(spare, old) {
			t.Fatalf("Text(%s): changed, or another one: %q, %d, %q, %d", brief(first), text, e, again, f)
		}
		wantError(t, s+"\n)", strings.Count(s, "\n")+1, api.ErrSyntax)
		wantTextError(t, api.ErrArg, append(first, api.Stmt{})...)
		if third := parsed(t, s); !same(third, tree) {
			t.Fatalf("Parse(%q) hangs on what was asked before", s)
		}
	}
}
