package parse

import (
	"slices"
	"strconv"
	"strings"

	"gearbox/api"
)

// page is the text of a tree, as far as it is written. It leaves with ErrLimit as soon as there is more than a program's text may have.
type page struct{ strings.Builder }

// put: texts behind what there is.
func (p *page) put(l ...string) {
	for _, s := range l {
		if len(s) > api.MaxSource-p.Len() {
			panic(fault{err: api.ErrLimit})
		}
		p.WriteString(s)
	}
}

// row writes items, with a text between each two.
func row[T any](p *page, l []T, between string, write func(T)) {
	for i, x := range l {
		if i > 0 {
			p.put(between)
		}
		write(x)
	}
}

func (p *page) stmts(l []api.Stmt) { row(p, l, "", p.stmt) }

func (p *page) block(l []api.Stmt) {
	p.put(" {\n")
	p.stmts(l)
	p.put("}")
}

func (p *page) stmt(s api.Stmt) {
	switch s.Kind {
	case api.StIf, api.StWhile, api.StTry:
		p.blocks(s)
		p.put("\n")
		return
	case api.StVar:
		p.put("var ", s.Name, " = ")
	case api.StSet:
		p.put(s.Name, " = ")
	case api.StPut:
		p.item(s.Args)
		p.put(" = ")
	case api.StReturn:
		p.put("return ")
	case api.StPrint:
		p.put("print ")
	case api.StThrow:
		p.put("throw ")
	}
	p.expr(s.Args[len(s.Args)-1])
	p.put(";\n")
}

// blocks: a statement that has blocks.
func (p *page) blocks(s api.Stmt) {
	switch s.Kind {
	case api.StIf:
		p.put("if ")
		p.expr(s.Args[0])
		p.block(s.Body)
		if len(s.Else) > 0 {
			p.put(" else")
			p.block(s.Else)
		}
	case api.StWhile:
		p.put("while ")
		p.expr(s.Args[0])
		p.block(s.Body)
	case api.StTry:
		p.put("try")
		p.block(s.Body)
		p.put(" catch ", s.Name)
		p.block(s.Else)
	}
}

func (p *page) expr(x api.Expr) {
	switch x.Kind {
	case api.ExBin:
		p.both(x.Args, x.S)
	case api.ExAnd:
		p.both(x.Args, "and")
	case api.ExOr:
		p.both(x.Args, "or")
	case api.ExNot:
		p.behind("not ", x.Args)
	case api.ExNeg:
		p.behind("-", x.Args)
	case api.ExLen:
		p.behind("#", x.Args)
	case api.ExShow:
		p.behind("$", x.Args)
	default:
		p.firm(x)
	}
}

// both: two operands and what stands between them.
func (p *page) both(l []api.Expr, sign string) {
	p.operand(l[0])
	p.put(" ", sign, " ")
	p.operand(l[1])
}

// behind: an operand and what stands ahead of it.
func (p *page) behind(sign string, l []api.Expr) {
	p.put(sign)
	p.operand(l[0])
}

func (p *page) operand(x api.Expr) {
	switch x.Kind {
	case api.ExBin, api.ExAnd, api.ExOr, api.ExNot, api.ExNeg, api.ExLen, api.ExShow:
		p.put("(")
		p.expr(x)
		p.put(")")
	default:
		p.firm(x)
	}
}

// firm: an expression that is an operand as it stands.
func (p *page) firm(x api.Expr) {
	switch x.Kind {
	case api.ExNil:
		p.put("nil")
	case api.ExBool:
		p.put(yesOrNo(x.N))
	case api.ExInt:
		p.put(strconv.FormatInt(x.N, 10))
	case api.ExText:
		p.put(quoted(x.S))
	case api.ExName:
		p.put(x.S)
	case api.ExList:
		p.exprs("[", x.Args, "]")
	case api.ExMap:
		p.put("{")
		row(p, slices.Collect(slices.Chunk(x.Args, 2)), ", ", p.pair)
		p.put("}")
	case api.ExGet:
		p.item(x.Args)
	case api.ExCall:
		p.operand(x.Args[0])
		p.exprs("(", x.Args[1:], ")")
	case api.ExFn:
		p.fn(x)
	}
}

func yesOrNo(n int64) string {
	if n == 1 {
		return "yes"
	}
	return "no"
}

// quoted: a text as a word.
func quoted(s string) string {
	return `"` + strings.NewReplacer(`"`, `\"`, `\`, `\\`, "\n", `\n`).Replace(s) + `"`
}

func (p *page) exprs(open string, l []api.Expr, end string) {
	p.put(open)
	row(p, l, ", ", p.expr)
	p.put(end)
}

func (p *page) pair(l []api.Expr) {
	p.expr(l[0])
	p.put(": ")
	p.expr(l[1])
}

// item: what an expression has at a place, the first two of a list.
func (p *page) item(l []api.Expr) {
	p.operand(l[0])
	p.exprs("[", l[1:2], "]")
}

func (p *page) fn(x api.Expr) {
	p.put("fn")
	if x.S != "" {
		p.put(" ", x.S)
	}
	p.put("(")
	row(p, x.Params, ", ", func(s string) { p.put(s) })
	p.put(")")
	p.block(x.Body)
}
