package listing

import (
	"strconv"
	"strings"

	"gearbox/api"
)

// page is what lines are written on.
type page struct{ strings.Builder }

// fn: the lines of a function that may be.
func (p *page) fn(f *api.Fn) {
	p.line(wordFn, f.Name, f.Params, f.Locals)
	for _, c := range f.Caps {
		if c.Up {
			p.line(wordUp, c.N)
		} else {
			p.line(wordCap, c.N)
		}
	}
	for _, c := range f.Consts {
		if c.Kind == api.Int {
			p.line(wordInt, c.N)
		} else {
			p.line(wordText, c.S)
		}
	}
	for pc, ins := range f.Code {
		p.ins(f.Lines[pc], ins)
	}
	for _, h := range f.Handlers {
		p.line(wordCatch, h.From, h.To, h.At, h.Deep)
	}
}

func (p *page) ins(line int, ins api.Ins) {
	switch {
	case ins.Op == api.OpBin:
		p.line(line, ops[ins.Op], bins[ins.A])
	case hasNumber(ins.Op):
		p.line(line, ops[ins.Op], ins.A)
	default:
		p.line(line, ops[ins.Op])
	}
}

func (p *page) line(things ...any) {
	for i, x := range things {
		if i > 0 {
			p.WriteByte(' ')
		}
		p.thing(x)
	}
	p.WriteByte('\n')
}

func (p *page) thing(x any) {
	switch x := x.(type) {
	case word:
		p.WriteString(string(x))
	case string:
		p.quoted(x)
	case int:
		p.WriteString(strconv.Itoa(x))
	case int64:
		p.WriteString(strconv.FormatInt(x, 10))
	}
}

func (p *page) quoted(s string) {
	p.WriteByte('"')
	for i := range len(s) {
		switch c := s[i]; c {
		case '"', '\\':
			p.WriteByte('\\')
			p.WriteByte(c)
		case '\n':
			p.WriteString(`\n`)
		default:
			p.WriteByte(c)
		}
	}
	p.WriteByte('"')
}
