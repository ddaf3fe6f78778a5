package parse

import "gearbox/api"

// level is how firmly an operator holds what stands beside it.
type level int

const (
	levelNone level = iota // no operator
	levelOr
	levelAnd
	levelNot
	levelCmp
	levelSum
	levelProd
	levelUn
)

// wordLevel: the level of a word that stands between two operands.
func wordLevel(w api.Word) level {
	switch {
	case w.Kind == api.WSign:
		return signLevel(w.S)
	case w.Kind == api.WName && w.S == "or":
		return levelOr
	case w.Kind == api.WName && w.S == "and":
		return levelAnd
	}
	return levelNone
}

// signLevel: the level of a sign that an ExBin has.
func signLevel(s string) level {
	switch s {
	case "==", "!=", "<", "<=":
		return levelCmp
	case "+", "-":
		return levelSum
	case "*", "/", "%":
		return levelProd
	}
	return levelNone
}

// whole: an expression of any level.
func (p *parser) whole() *api.Expr { return p.expr(levelOr) }

// expr: an expression of a level, or of one that holds more firmly. (It and what it calls hand on pointers, so that brackets within brackets, of which a text can have some ten thousands, take little of the stack.)
func (p *parser) expr(least level) *api.Expr {
	line := p.line()
	x, most := p.operand(least)
	for {
		l := wordLevel(p.next())
		if l < least || l > most {
			return x
		}
		x = p.joined(x, l)
		x.Line = line
		most = l
		if l == levelCmp { // there is one comparison alone
			most--
		}
	}
}

// operand: what an expression of a level begins with; up to which level operators may stand behind it.
func (p *parser) operand(least level) (*api.Expr, level) {
	if least > levelNot || !p.is("not") {
		return p.un(), levelProd
	}
	return p.ahead(api.ExNot, func() *api.Expr { return p.expr(levelNot) }), levelAnd
}

// joined: an operator of a level and what stands behind it, with what stands ahead.
func (p *parser) joined(x *api.Expr, l level) *api.Expr {
	sign := p.next().S
	p.at++
	args := []api.Expr{*x, *p.expr(l + 1)}
	switch l {
	case levelOr:
		return &api.Expr{Kind: api.ExOr, Args: args}
	case levelAnd:
		return &api.Expr{Kind: api.ExAnd, Args: args}
	}
	return &api.Expr{Kind: api.ExBin, S: sign, Args: args}
}

// ahead: an operator that stands ahead of its operand.
func (p *parser) ahead(k api.ExprKind, operand func() *api.Expr) *api.Expr {
	x := &api.Expr{Kind: k, Line: p.line()}
	p.at++
	x.Args = []api.Expr{*operand()}
	return x
}

func (p *parser) un() *api.Expr {
	switch {
	case p.is("-"):
		return p.ahead(api.ExNeg, p.un)
	case p.is("#"):
		return p.ahead(api.ExLen, p.un)
	case p.is("$"):
		return p.ahead(api.ExShow, p.un)
	}
	return p.post()
}

func (p *parser) post() *api.Expr {
	line := p.line()
	x := p.prim()
	for p.is("[") || p.is("(") {
		x = &api.Expr{Args: []api.Expr{*x}, Line: line}
		p.rest(x)
	}
	return x
}

// rest: what stands behind an item's, or a call's, first part.
func (p *parser) rest(x *api.Expr) {
	if p.take("(") {
		x.Kind = api.ExCall
		p.listed(")", func() { p.arg(x) })
		return
	}
	x.Kind = api.ExGet
	p.need("[")
	p.arg(x)
	p.need("]")
}

// arg: an expression is one more of the Args of another one.
func (p *parser) arg(x *api.Expr) {
	y := p.whole()
	x.Args = append(x.Args, *y)
}

func (p *parser) prim() *api.Expr {
	x := &api.Expr{Line: p.line()}
	switch {
	case p.take("("):
		inner := p.whole() // with a line of its own: these brackets are no part of it
		p.need(")")
		return inner
	case p.take("["):
		x.Kind = api.ExList
		p.listed("]", func() { p.arg(x) })
	case p.take("{"):
		x.Kind = api.ExMap
		p.listed("}", func() { p.pair(x) })
	case p.take("fn"):
		x.Kind = api.ExFn
		p.fn(x)
	default:
		p.atom(x)
	}
	return x
}

// pair: a key and its value, of a map.
func (p *parser) pair(x *api.Expr) {
	p.arg(x)
	p.need(":")
	p.arg(x)
}

// fn: what a function has behind its first word.
func (p *parser) fn(x *api.Expr) {
	if !p.is("(") {
		x.S = p.name()
	}
	p.need("(")
	p.listed(")", func() { x.Params = append(x.Params, p.name()) })
	x.Body = p.block()
}

// atom: an expression of one word.
func (p *parser) atom(x *api.Expr) {
	w := p.next()
	switch {
	case p.take("nil"):
		x.Kind = api.ExNil
	case p.take("yes"):
		x.Kind, x.N = api.ExBool, 1
	case p.take("no"):
		x.Kind = api.ExBool
	case w.Kind == api.WInt:
		x.Kind, x.N = api.ExInt, w.N
		p.at++
	case w.Kind == api.WText:
		x.Kind, x.S = api.ExText, w.S
		p.at++
	default:
		x.Kind, x.S = api.ExName, p.name()
	}
}
