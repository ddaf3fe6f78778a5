package lex

import (
	"strconv"
	"strings"

	"gearbox/api"
)

// reader goes through a text from its first byte on.
type reader struct {
	rest string // what was not gone through yet
	line int    // how many bytes 10 were: no word has one, so those of what is idle are all
}

// eat: the bytes from here on, as long as more says so.
func (r *reader) eat(more func(c byte) bool) string {
	n := 0
	for n < len(r.rest) && more(r.rest[n]) {
		n++
	}
	eaten := r.rest[:n]
	r.rest = r.rest[n:]
	return eaten
}

func (r *reader) passIdle() {
	for {
		blanks := r.eat(func(c byte) bool { return c == ' ' || c == '\t' || c == '\n' })
		r.line += countLines(blanks)
		if !strings.HasPrefix(r.rest, "//") {
			return
		}
		r.eat(func(c byte) bool { return c != '\n' })
	}
}

// countLines: how many bytes 10 a text has. Its runes will do: no longer one has that byte in it, and bytes that are none stand for one each.
func countLines(s string) int {
	n := 0
	for _, c := range s {
		if c == '\n' {
			n++
		}
	}
	return n
}

// word: the one that begins here, without its line; false: none does.
func (r *reader) word() (api.Word, bool) {
	switch c := r.rest[0]; {
	case isLetter(c):
		return r.name()
	case isDigit(c):
		return r.number()
	case c == '"':
		return r.text()
	}
	return r.sign()
}

func (r *reader) name() (api.Word, bool) {
	s := r.eat(isInName)
	// A copy, since a piece of the program's text would keep all of it.
	return api.Word{Kind: api.WName, S: strings.Clone(s)}, len(s) <= api.MaxText
}

// number: letters are eaten with the digits, so that a number with one right behind it is none.
func (r *reader) number() (api.Word, bool) {
	s := r.eat(isInName)
	if len(s) > 1 && s[0] == '0' {
		return api.Word{}, false
	}
	n, err := strconv.ParseInt(s, 10, 64)
	return api.Word{Kind: api.WInt, N: n}, err == nil
}

func (r *reader) text() (api.Word, bool) {
	r.rest = r.rest[len(`"`):]
	escaped := false
	inside := r.eat(func(c byte) bool {
		if c == '\n' || c == '"' && !escaped {
			return false
		}
		escaped = c == '\\' && !escaped
		return true
	})
	rest, ended := strings.CutPrefix(r.rest, `"`)
	r.rest = rest
	s, ok := unescape(inside)
	return api.Word{Kind: api.WText, S: s}, ended && ok && len(s) <= api.MaxText
}

// unescape: what the bytes of a text stand for; false: there is a \ that stands for nothing.
func unescape(s string) (string, bool) {
	var b strings.Builder
	for {
		ahead, behind, found := strings.Cut(s, `\`)
		b.WriteString(ahead)
		if !found {
			return b.String(), true
		}
		if behind == "" {
			return "", false
		}
		switch behind[0] {
		case '"', '\\':
			b.WriteByte(behind[0])
		case 'n':
			b.WriteByte('\n')
		default:
			return "", false
		}
		s = behind[1:]
	}
}

// signs: each ahead of those that it begins with, so that the first one that fits is as long as can be.
var signs = [...]string{
	"==", "!=", "<=",
	"(", ")", "{", "}", "[", "]", ",", ";", ":", "=", "<", "+", "-", "*", "/", "%", "#", "$",
}

func (r *reader) sign() (api.Word, bool) {
	for _, s := range signs {
		if rest, ok := strings.CutPrefix(r.rest, s); ok {
			r.rest = rest
			return api.Word{Kind: api.WSign, S: s}, true
		}
	}
	return api.Word{}, false
}

func isLetter(c byte) bool { return 'a' <= c && c <= 'z' || 'A' <= c && c <= 'Z' || c == '_' }

func isDigit(c byte) bool { return '0' <= c && c <= '9' }

func isInName(c byte) bool { return isLetter(c) || isDigit(c) }
