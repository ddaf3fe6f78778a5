package lex_test

import (
	"math/big"
	"regexp"
	"slices"
	"strings"
	"testing"

	"gearbox/api"
	"gearbox/lex"
)

// What the chapter says of words, written a second time, as patterns.
var (
	idlePattern   = regexp.MustCompile(`^(?:[ \t\n]|//[^\n]*)+`)
	namePattern   = regexp.MustCompile(`^[a-zA-Z_][a-zA-Z_0-9]*`)
	numberPattern = regexp.MustCompile(`^[0-9]+`)
	needless      = regexp.MustCompile(`^0[0-9]`)
	textPattern   = regexp.MustCompile(`^"(?:[^"\\\n]|\\["\\n])*"`)
	signPattern   = regexp.MustCompile(`^(?:==|!=|<=|[(){}\[\],;:=<+\-*/%#$])`)
	escapes       = strings.NewReplacer(`\"`, `"`, `\\`, `\`, `\n`, "\n")
)

// piece is a word with the bytes as which it stands.
type piece struct {
	as   string
	word api.Word
}

// pieces: the words of a text that is not too long; false: the place of the first byte that begins none.
func pieces(s string) ([]piece, int, bool) {
	var l []piece
	at := 0
	for {
		at += len(idlePattern.FindString(s[at:]))
		if at == len(s) {
			return l, 0, true
		}
		p, ok := firstPiece(s[at:])
		if !ok {
			return nil, at, false
		}
		p.word.Line = countLines(s[:at])
		l = append(l, p)
		at += len(p.as)
	}
}

func firstPiece(s string) (piece, bool) {
	if as := namePattern.FindString(s); as != "" {
		return piece{as, name(as)}, len(as) <= 4096
	}
	if as := numberPattern.FindString(s); as != "" {
		n, _ := new(big.Int).SetString(as, 10)
		letter := namePattern.MatchString(s[len(as):])
		return piece{as, num(n.Int64())}, n.IsInt64() && !letter && !needless.MatchString(as)
	}
	if as := textPattern.FindString(s); as != "" {
		said := escapes.Replace(as[1 : len(as)-1])
		return piece{as, says(said)}, len(said) <= 4096
	}
	as := signPattern.FindString(s)
	return piece{as, sign(as)}, as != ""
}

func wordsOf(l []piece) []api.Word {
	var words []api.Word
	for _, p := range l {
		words = append(words, p.word)
	}
	return words
}

// sameAnswer holds an answer against the patterns, and says whether there are words.
func sameAnswer(t *testing.T, s string) ([]piece, bool) {
	t.Helper()
	l, at, ok := pieces(s)
	if ok {
		wantWords(t, s, wordsOf(l)...)
	} else {
		wantError(t, s, countLines(s[:at]), api.ErrWord)
	}
	return l, ok
}

// P5.1: all texts of a few bytes, of those that words begin with, end with, or may not have.
func TestShortTexts(t *testing.T) {
	const bytes = "a_09\"\\n/=!< \n;\xe2"
	for length := range 5 {
		s := make([]byte, length)
		var fill func(i int)
		fill = func(i int) {
			if i == length {
				sameAnswer(t, string(s))
				return
			}
			for _, c := range []byte(bytes) {
				s[i] = c
				fill(i + 1)
			}
		}
		fill(0)
		if t.Failed() {
			t.FailNow()
		}
	}
	for i := range 1 << 16 {
		sameAnswer(t, string([]byte{byte(i >> 8), byte(i)}))
	}
}

// dice is a row of numbers that hangs on its start alone.
type dice uint64

func (d *dice) below(n int) int {
	*d = *d*6364136223846793005 + 1442695040888963407
	return int(uint64(*d) >> 33 % uint64(n))
}

// source: a text of bits that words are made of, so short that two of them are not too long together; wild: how seldom there is a bit that may make it none.
func (d *dice) source(wild int) string {
	tame := []string{"a", "b1", "_", "while", "0 ", "7 ", "10 ", "9223372036854775807 ", `""`, `"x\n"`, `"\\"`, `"\"//"`, "\"\xe2\xff\"", "(", "}", "=", "==", "!=", "<", "<=", "/", "-", "#", "$", " ", "\t", "\n", "\n\n", "// r\n", "//\"\n", "//\xe2\n"}
	rough := []string{"0", "5", `"`, `\`, "!", "&", ">", "\r", "\xe2", "9223372036854775808", `"\x"`, "//", "\"\n", strings.Repeat("k", 4090), `"` + strings.Repeat(`\n`, 4097) + `"`}
	var b strings.Builder
	for range d.below(25) {
		if b.Len() > api.MaxSource/4 {
			break
		}
		bits := tame
		if d.below(wild) == 0 {
			bits = rough
		}
		b.WriteString(bits[d.below(len(bits))])
	}
	return b.String()
}

// blanksBetween: P5.2, what is idle between words makes no difference, but for lines.
func blanksBetween(t *testing.T, l []piece) {
	t.Helper()
	var stand []string
	var words []api.Word
	for _, p := range l {
		stand = append(stand, p.as)
		words = append(words, on(0, p.word))
	}
	wantWords(t, strings.Join(stand, " "), words...)
}

// bothTexts: P5.2, of two texts with a byte 10 between; a fault of the first one is one still.
func bothTexts(t *testing.T, a, b string) {
	t.Helper()
	x, line, e := lex.Words(a)
	if e != api.OK {
		wantError(t, a+"\n"+b, line, e)
		return
	}
	y, line, e := lex.Words(b)
	lower := countLines(a) + 1
	if e != api.OK {
		wantError(t, a+"\n"+b, lower+line, e)
		return
	}
	for i := range y {
		y[i].Line += lower
	}
	wantWords(t, a+"\n"+b, append(x, y...)...)
}

// P5.1 and P5.2, over texts of any words.
func TestFollows(t *testing.T) {
	counts := map[bool]int{}
	for seed := range 20000 {
		d := dice(seed)
		s := d.source(1 + seed%60)
		l, ok := sameAnswer(t, s)
		counts[ok]++
		if ok {
			blanksBetween(t, l)
			words, _, _ := lex.Words(s)
			if !slices.IsSortedFunc(words, func(v, w api.Word) int { return v.Line - w.Line }) {
				t.Errorf("lines fall: %q", s)
			}
		}
		bothTexts(t, s, d.source(1+seed%50))
		if t.Failed() {
			t.Fatalf("start %d", seed)
		}
	}
	if counts[true] < 4000 || counts[false] < 4000 {
		t.Errorf("too few of a sort: %v", counts)
	}
}
