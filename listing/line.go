package listing

import (
	"strconv"
	"strings"

	"gearbox/api"
)

// line is read from its beginning on. What is read behind a fault means nothing.
type line struct {
	rest  string
	wrong bool
}

// isRight: was all of it read, without a fault?
func (l *line) isRight() bool { return l.rest == "" && !l.wrong }

// want: it is a fault, if something does not hold.
func (l *line) want(holds bool) {
	if !holds {
		l.wrong = true
	}
}

// eat: what it must go on with.
func (l *line) eat(s string) {
	rest, ok := strings.CutPrefix(l.rest, s)
	l.rest = rest
	l.want(ok)
}

// first: what stands ahead of the next blank.
func (l *line) first() word {
	end := strings.IndexByte(l.rest, ' ')
	if end < 0 {
		end = len(l.rest)
	}
	w := l.rest[:end]
	l.rest = l.rest[end:]
	return word(w)
}

// word: a blank, and what stands ahead of the next one.
func (l *line) word() word {
	l.eat(" ")
	return l.first()
}

// numberOf: there is one way alone to tell a number, so it is one, if it would be told like this.
func numberOf(w word) (int64, bool) {
	n, err := strconv.ParseInt(string(w), 10, 64)
	return n, err == nil && strconv.FormatInt(n, 10) == string(w)
}

func (l *line) long() int64 {
	n, ok := numberOf(l.word())
	l.want(ok)
	return n
}

func (l *line) number() int { return int(l.long()) }

// text: what stands in quotes, in memory of its own.
func (l *line) text() string {
	l.eat(` "`)
	var b strings.Builder
	for {
		end := strings.IndexAny(l.rest, `"\`)
		if end < 0 {
			l.wrong = true
			return ""
		}
		b.WriteString(l.rest[:end])
		isLast := l.rest[end] == '"'
		l.rest = l.rest[end+1:]
		if isLast {
			return b.String()
		}
		b.WriteByte(l.escaped())
	}
}

// escaped: the byte that is told by the one behind a backslash.
func (l *line) escaped() byte {
	if l.rest == "" {
		l.wrong = true
		return 0
	}
	c := l.rest[0]
	l.rest = l.rest[1:]
	if c == 'n' {
		return '\n'
	}
	l.want(c == '"' || c == '\\')
	return c
}

func (l *line) head() api.Fn {
	return api.Fn{Name: l.text(), Params: l.number(), Locals: l.number()}
}

func (l *line) constant(first word) api.Const {
	if first == wordInt {
		return api.Const{Kind: api.Int, N: l.long()}
	}
	return api.Const{Kind: api.Text, S: l.text()}
}

// lineOf: the number of an instruction's line in the program's text, by the first word.
func (l *line) lineOf(first word) int {
	n, ok := numberOf(first)
	l.want(ok && n >= 0)
	return int(n)
}

func (l *line) ins() api.Ins {
	ins := api.Ins{Op: opOf(l.word())}
	l.want(ins.Op != api.OpNone)
	switch {
	case ins.Op == api.OpBin:
		bin := binOf(l.word())
		l.want(bin != api.BinNone)
		ins.A = int(bin)
	case hasNumber(ins.Op):
		ins.A = l.number()
	}
	return ins
}

func (l *line) handler() api.Handler {
	return api.Handler{From: l.number(), To: l.number(), At: l.number(), Deep: l.number()}
}
