package parse

import "gearbox/api"

// parser takes the words of a program, one behind the other. It takes a word only if some program goes on with it, so that the first one that it can't take is where the words are none.
type parser struct {
	words []api.Word // and a WEnd behind them, in the line of the last one
	at    int        // which word is next
}

func newParser(words []api.Word) *parser {
	end := api.Word{Kind: api.WEnd}
	if n := len(words); n > 0 {
		end.Line = words[n-1].Line
	}
	return &parser{words: append(words, end)}
}

// next: the word that was not taken yet.
func (p *parser) next() api.Word { return p.words[p.at] }

func (p *parser) line() int { return p.next().Line }

// fail: no program goes on with the next word.
func (p *parser) fail() { panic(fault{p.line(), api.ErrSyntax}) }

// is: is the next word this key word, this sign? (A text may say the same and is neither.)
func (p *parser) is(s string) bool {
	w := p.next()
	return w.S == s && w.Kind != api.WText
}

// take: the next word, if it is this one.
func (p *parser) take(s string) bool {
	if !p.is(s) {
		return false
	}
	p.at++
	return true
}

// need: the next word, which is this one.
func (p *parser) need(s string) {
	if !p.take(s) {
		p.fail()
	}
}

// name: the next word, which is a NAME.
func (p *parser) name() string {
	w := p.next()
	if !isNameWord(w) {
		p.fail()
	}
	p.at++
	return w.S
}

func isNameWord(w api.Word) bool { return w.Kind == api.WName && !isKeyWord(w.S) }

func isKeyWord(s string) bool {
	switch s {
	case "var", "if", "else", "while", "return", "print", "throw", "try", "catch", "not", "and", "or", "nil", "yes", "no", "fn":
		return true
	}
	return false
}

// listed: items with a comma between each two, and the sign that ends them.
func (p *parser) listed(end string, item func()) {
	if p.take(end) {
		return
	}
	for item(); !p.take(end); item() {
		p.need(",")
	}
}

func (p *parser) program() []api.Stmt {
	var l []api.Stmt
	for p.next().Kind != api.WEnd {
		l = append(l, p.stmt())
	}
	return l
}

func (p *parser) block() []api.Stmt {
	var l []api.Stmt
	p.need("{")
	for !p.take("}") {
		l = append(l, p.stmt())
	}
	return l
}

func (p *parser) stmt() api.Stmt {
	line := p.line()
	var s api.Stmt
	switch {
	case p.take("var"):
		s.Kind, s.Name = api.StVar, p.name()
		p.need("=")
		s.Args = p.ended()
	case p.take("if"):
		s.Kind, s.Args, s.Body = api.StIf, p.one(), p.block()
		if p.take("else") {
			s.Else = p.block()
		}
	case p.take("while"):
		s.Kind, s.Args, s.Body = api.StWhile, p.one(), p.block()
	case p.take("return"):
		s.Kind, s.Args = api.StReturn, p.ended()
	case p.take("print"):
		s.Kind, s.Args = api.StPrint, p.ended()
	case p.take("throw"):
		s.Kind, s.Args = api.StThrow, p.ended()
	case p.take("try"):
		s.Kind, s.Body = api.StTry, p.block()
		p.need("catch")
		s.Name, s.Else = p.name(), p.block()
	default:
		s = p.plain()
	}
	s.Line = line
	return s
}

// plain: a statement that begins with an expression. A name and an item can be set, but not within brackets of their own: then a ) stands right behind them.
func (p *parser) plain() api.Stmt {
	x := p.whole()
	if bare := p.words[p.at-1].S != ")"; bare && p.is("=") {
		switch x.Kind {
		case api.ExName:
			p.need("=")
			return api.Stmt{Kind: api.StSet, Name: x.S, Args: p.ended()}
		case api.ExGet:
			p.need("=")
			return api.Stmt{Kind: api.StPut, Args: append(x.Args, p.ended()...)}
		}
	}
	p.need(";")
	return api.Stmt{Kind: api.StDo, Args: []api.Expr{*x}}
}

// one: an expression, as a statement has it.
func (p *parser) one() []api.Expr { return []api.Expr{*p.whole()} }

// ended: one, and the ; behind it.
func (p *parser) ended() []api.Expr {
	l := p.one()
	p.need(";")
	return l
}
