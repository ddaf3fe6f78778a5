package listing_test

import (
	"fmt"
	"math/big"
	"reflect"
	"regexp"
	"slices"
	"strings"
	"testing"

	"gearbox/api"
	"gearbox/listing"
	"gearbox/verify"
)

// What the chapter says, written a second time: lines as patterns, their order as a pattern of their letters.
var (
	words    = strings.Fields("const nil yes no load store cell cellload cellstore up upstore pop dup bin not neg len show jump unless loop list map get put fn call return throw print")
	numbered = strings.Fields("const load store cell cellload cellstore up upstore jump unless loop list map fn call")
	signs    = strings.Fields("add sub mul div mod less most same unlike")
	escape   = strings.NewReplacer(`"`, `\"`, `\`, `\\`, "\n", `\n`)
	unescape = strings.NewReplacer(`\"`, `"`, `\\`, `\`, `\n`, "\n")
	order    = regexp.MustCompile(`^fc*k*i*h*$`)
)

// shape of a line: the letter of its row, and its pattern.
type shape struct {
	letter  string
	pattern *regexp.Regexp
}

// shapes: N stands for a number, L for one that is not below 0, S for a text in quotes; NUMBERED for the words with a number, PLAIN for those without an A, BIN for the signs.
var shapes = func() []shape {
	var plain []string
	for _, w := range words {
		if w != "bin" && !slices.Contains(numbered, w) {
			plain = append(plain, w)
		}
	}
	parts := strings.NewReplacer("PLAIN", "("+strings.Join(plain, "|")+")", "NUMBERED", "("+strings.Join(numbered, "|")+")", "BIN", "("+strings.Join(signs, "|")+")",
		"N", `(0|-?[1-9][0-9]*)`, "L", `(0|[1-9][0-9]*)`, "S", `"((?:[^"\\\n]|\\["\\n])*)"`)
	var l []shape
	for _, row := range [][2]string{{"f", "fn S N N"}, {"c", "(cap|up) N"}, {"k", "(int) N"}, {"k", "(text) S"}, {"i", "L NUMBERED N"}, {"i", "L (bin) BIN"}, {"i", "L PLAIN"}, {"h", "catch N N N N"}} {
		var text []string
		for _, w := range strings.Fields(row[1]) {
			text = append(text, parts.Replace(w))
		}
		l = append(l, shape{row[0], regexp.MustCompile("^" + strings.Join(text, " ") + "\n$")})
	}
	return l
}()

// modelLine: the letter of a line's row, and what stands in it; "", if it is of none.
func modelLine(line string) (string, []string) {
	for _, s := range shapes {
		if found := s.pattern.FindStringSubmatch(line); found != nil {
			return s.letter, found[1:]
		}
	}
	return "", nil
}

// modelNumbers: those that stand at the end of what a line tells.
func modelNumbers(l []string) ([]int, bool) {
	var numbers []int
	for _, s := range l {
		n, _ := new(big.Int).SetString(s, 10)
		if !n.IsInt64() {
			return nil, false
		}
		numbers = append(numbers, int(n.Int64()))
	}
	return numbers, true
}

// modelAdd: what a line tells, of the function that was told last.
func modelAdd(p *api.Program, letter string, found []string) bool {
	var n []int
	ok := true
	switch letter {
	case "f":
		if n, ok = modelNumbers(found[1:]); ok {
			*p = append(*p, api.Fn{Name: unescape.Replace(found[0]), Params: n[0], Locals: n[1]})
		}
		return ok
	case "h":
		n, ok = modelNumbers(found)
	case "c":
		n, ok = modelNumbers(found[1:])
	case "i":
		n, ok = modelNumbers(found[:1])
	}
	if !ok {
		return false
	}
	f := &(*p)[len(*p)-1]
	switch letter {
	case "h":
		f.Handlers = append(f.Handlers, api.Handler{From: n[0], To: n[1], At: n[2], Deep: n[3]})
	case "c":
		f.Caps = append(f.Caps, api.Cap{Up: found[0] == "up", N: n[0]})
	case "k":
		return modelConst(f, found)
	case "i":
		return modelIns(f, n[0], found[1:])
	}
	return true
}

func modelConst(f *api.Fn, found []string) bool {
	if found[0] == "text" {
		f.Consts = append(f.Consts, api.Const{Kind: api.Text, S: unescape.Replace(found[1])})
		return true
	}
	n, ok := modelNumbers(found[1:])
	if ok {
		f.Consts = append(f.Consts, api.Const{Kind: api.Int, N: int64(n[0])})
	}
	return ok
}

func modelIns(f *api.Fn, line int, found []string) bool {
	ins := api.Ins{Op: api.Op(1 + slices.Index(words, found[0]))}
	if found[0] == "bin" {
		ins.A = 1 + slices.Index(signs, found[1])
	} else if len(found) > 1 {
		n, ok := modelNumbers(found[1:])
		if !ok {
			return false
		}
		ins.A = n[0]
	}
	f.Code, f.Lines = append(f.Code, ins), append(f.Lines, line)
	return true
}

func modelParse(s string) (api.Program, int, api.Errno) {
	lines := strings.SplitAfter(s, "\n")
	if lines[len(lines)-1] == "" {
		lines = lines[:len(lines)-1]
	}
	var p api.Program
	letters := ""
	for i, line := range lines {
		letter, found := modelLine(line)
		letters += letter
		if letter == "f" {
			letters = "f"
		}
		if letter == "" || !order.MatchString(letters) || !modelAdd(&p, letter, found) {
			return nil, i, api.ErrForm
		}
	}
	if _, _, e := verify.Check(p); e != api.OK {
		return nil, len(lines), api.ErrForm
	}
	return p, 0, api.OK
}

func modelText(p api.Program) (string, api.Errno) {
	if _, _, e := verify.Check(p); e != api.OK {
		return "", api.ErrForm
	}
	s := ""
	for _, f := range p {
		s += fmt.Sprintf("fn \"%s\" %d %d\n", escape.Replace(f.Name), f.Params, f.Locals)
		for _, c := range f.Caps {
			s += fmt.Sprintf("%s %d\n", map[bool]string{false: "cap", true: "up"}[c.Up], c.N)
		}
		for _, c := range f.Consts {
			if c.Kind == api.Text {
				s += "text \"" + escape.Replace(c.S) + "\"\n"
			} else {
				s += fmt.Sprintf("int %d\n", c.N)
			}
		}
		for i, ins := range f.Code {
			word := words[ins.Op-1]
			if word == "bin" {
				word += " " + signs[ins.A-1]
			} else if slices.Contains(numbered, word) {
				word += fmt.Sprint(" ", ins.A)
			}
			s += fmt.Sprintf("%d %s\n", f.Lines[i], word)
		}
		for _, h := range f.Handlers {
			s += fmt.Sprintf("catch %d %d %d %d\n", h.From, h.To, h.At, h.Deep)
		}
	}
	return s, api.OK
}

// brief: a program, and not too much of it.
func brief(p api.Program) string { return fmt.Sprintf("%.1500q", fmt.Sprintf("%+v", p)) }

// same: one code, whether its empty lists are nil or not.
func same(p, q api.Program) bool {
	return slices.EqualFunc(p, q, func(f, g api.Fn) bool {
		alike := slices.Equal(f.Caps, g.Caps) && slices.Equal(f.Consts, g.Consts) && slices.Equal(f.Code, g.Code) && slices.Equal(f.Lines, g.Lines) && slices.Equal(f.Handlers, g.Handlers)
		return alike && f.Name == g.Name && f.Params == g.Params && f.Locals == g.Locals
	})
}

// alikeParse: does Parse answer what the model does? And if there is code, P10.3 of it.
func alikeParse(t *testing.T, s string) api.Errno {
	t.Helper()
	p, n, e := listing.Parse(s)
	if want, wantN, wantE := modelParse(s); !same(p, want) || n != wantN || e != wantE {
		t.Fatalf("Parse(%.1000q) = %s, %d, %d, not %s, %d, %d", s, brief(p), n, e, brief(want), wantN, wantE)
	}
	if e != api.OK {
		if p != nil {
			t.Fatalf("Parse(%.1000q) = %s beside an error", s, brief(p))
		}
		return e
	}
	if text, e := listing.Text(p); text != s || e != api.OK {
		t.Fatalf("Text(%s) = %.1000q, %d, not %.1000q", brief(p), text, e, s)
	}
	return e
}

// alikeText: does Text answer what the model does? And if there is a text, P10.3 of it.
func alikeText(t *testing.T, p api.Program) (string, api.Errno) {
	t.Helper()
	s, e := listing.Text(p)
	if want, wantE := modelText(p); s != want || e != wantE {
		t.Fatalf("Text(%s) = %.1000q, %d, not %.1000q, %d", brief(p), s, e, want, wantE)
	}
	if e != api.OK {
		return s, e
	}
	if q, n, e := listing.Parse(s); !same(p, q) || n != 0 || e != api.OK {
		t.Fatalf("Parse(%.1000q) = %s, %d, %d, not %s", s, brief(q), n, e, brief(p))
	}
	return s, e
}

// The patterns are right at the chapter's own rows.
func TestModel(t *testing.T) {
	p := api.Program{{Name: "a \"b\"", Locals: 2, Code: []api.Ins{{Op: api.OpNil}, {Op: api.OpReturn}}, Lines: []int{0, 3}}}
	s, e := modelText(p)
	q, n, e2 := modelParse(s)
	if s != "fn \"a \\\"b\\\"\" 0 2\n0 nil\n3 return\n" || e != api.OK || n != 0 || e2 != api.OK || !reflect.DeepEqual(p, q) {
		t.Errorf("%q, %d, %s, %d, %d", s, e, brief(q), n, e2)
	}
	if len(words) != int(api.OpPrint) || len(signs) != int(api.Unlike) || len(numbered) != 15 {
		t.Errorf("%d words, %d signs, %d with a number", len(words), len(signs), len(numbered))
	}
}
