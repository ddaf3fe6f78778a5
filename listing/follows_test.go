package listing_test

import (
	"math"
	"slices"
	"strings"
	"testing"

	"gearbox/api"
	"gearbox/gen"
	"gearbox/listing"
	"gearbox/samples"
)

// codes: the code of texts, one for each seed that has one.
func codes(seeds int) []api.Program {
	var l []api.Program
	for seed := range seeds {
		if p, _, e := gen.Of(samples.Text(seed)); e == api.OK {
			l = append(l, p)
		}
	}
	return l
}

// copyOf: a program in other memory.
func copyOf(p api.Program) api.Program {
	q := slices.Clone(p)
	for i, f := range q {
		q[i].Caps, q[i].Consts, q[i].Code, q[i].Lines, q[i].Handlers = slices.Clone(f.Caps), slices.Clone(f.Consts), slices.Clone(f.Code), slices.Clone(f.Lines), slices.Clone(f.Handlers)
	}
	return q
}

// P10.1, P10.3: the code of texts; code that is unlike has unlike texts.
func TestTexts(t *testing.T) {
	seen := map[string]api.Program{}
	for _, p := range codes(2000) {
		s, e := alikeText(t, p)
		if e != api.OK {
			t.Fatalf("Text(%s): %d", brief(p), e)
		}
		if q, ok := seen[s]; ok && !same(p, q) {
			t.Fatalf("%s and %s have one text", brief(p), brief(q))
		}
		seen[s] = p
	}
	if len(seen) < 1500 {
		t.Errorf("%d texts", len(seen))
	}
}

// cook makes what may be wrong.
type cook struct{ *samples.Dice }

func (c cook) number(n int) int {
	switch c.Below(8) {
	case 0:
		return []int{math.MaxInt, math.MinInt, -1, 1 << 32, 1000}[c.Below(5)]
	case 1, 2:
		return c.Below(12)
	}
	return n + c.Below(3) - 1
}

// text: of bits that are awkward in quotes.
func (c cook) text() string {
	s := ""
	for range c.Below(6) {
		s += c.Of(`"`, `\`, "\n", "n", " ", "a", "0", "\r", "\x00", "\xff", "é")
	}
	return s
}

// spoil: something of a program is another one.
func (c cook) spoil(p api.Program) {
	f := &p[c.Below(len(p))]
	i := c.Below(len(f.Code))
	switch c.Below(11) {
	case 0:
		f.Name = c.text()
	case 1:
		f.Params, f.Locals = c.number(f.Params), c.number(f.Locals)
	case 2:
		f.Locals = c.number(f.Locals)
	case 3:
		f.Code[i].A = c.number(f.Code[i].A)
	case 4:
		f.Code[i].Op = api.Op(c.Below(34))
	case 5, 6:
		f.Lines[i] = c.number(10)
	case 7:
		f.Consts = append(f.Consts, api.Const{Kind: api.Int, N: int64(c.number(0))})
	case 8:
		f.Consts = append(f.Consts, api.Const{Kind: api.Text, S: c.text()})
	case 9:
		f.Consts = append([]api.Const{{Kind: api.Kind(c.Below(9)), N: int64(c.Below(2)), S: c.Of("", "a")}}, f.Consts...)
	case 10:
		f.Handlers = append(f.Handlers, api.Handler{From: i, To: i + 1, At: c.number(i + 3), Deep: c.Below(2)})
	}
}

// P10.1, P10.3: code of texts with something of it changed.
func TestSpoilt(t *testing.T) {
	right, wrong := 0, 0
	for seed, p := range codes(1500) {
		d := samples.Dice(seed)
		for range 6 {
			q := copyOf(p)
			for range 1 + d.Below(3) {
				cook{&d}.spoil(q)
			}
			s, e := alikeText(t, q)
			if e != api.OK {
				wrong++
				continue
			}
			right++
			if old, _ := listing.Text(p); (old == s) != same(p, q) {
				t.Fatalf("%s and %s: %.1000q and %.1000q", brief(p), brief(q), old, s)
			}
		}
	}
	if right < 2000 || wrong < 2000 {
		t.Errorf("%d right, %d wrong", right, wrong)
	}
}

// bits that texts of code are made of, or nearly.
var bits = append([]string{"", " ", "  ", "\n", `"`, `\`, `\n`, `\"`, "-", "0", "1", "-1", "00", "9223372036854775807", "9223372036854775808", "fn", `fn ""`, "cap", "int", "text", `text ""`, "catch", "catch 0 1 1 0\n", "cap 0\n", "up 0\n", "int 1\n", "text \"\"\n", "0 nil\n", "0 return\n", "fn \"\" 0 0\n", "\r", "\xff"}, append(words, signs...)...)

// mangle: a text of code with something of it changed.
func (c cook) mangle(s string) string {
	at := c.Below(len(s) + 1)
	lines := strings.SplitAfter(s, "\n")
	i, j := c.Below(len(lines)), c.Below(len(lines))
	switch c.Below(9) {
	case 0:
		return s[:at]
	case 1, 2:
		return s[:at] + c.Of(bits...) + s[at:]
	case 3:
		return s[:at] + s[min(at+1, len(s)):]
	case 4:
		lines[i], lines[j] = lines[j], lines[i]
	case 5:
		lines = slices.Delete(lines, i, i+1)
	case 6:
		lines = slices.Insert(lines, i, lines[j])
	case 7:
		parts := strings.SplitAfter(lines[i], " ")
		parts[c.Below(len(parts))] = c.Of(bits...) + c.Of("", " ", "\n")
		lines[i] = strings.Join(parts, "")
	case 8:
		lines[i] = strings.Replace(lines[i], " ", c.Of("  ", "", "\t", " 1 "), 1)
	}
	return strings.Join(lines, "")
}

// P10.2, P10.3: texts of code with something of them changed.
func TestMangled(t *testing.T) {
	right, wrong := 0, 0
	for seed, p := range codes(1500) {
		d := samples.Dice(seed)
		c := cook{&d}
		if d.Below(2) == 0 {
			p[d.Below(len(p))].Name = c.text()
			p[0].Consts = append(p[0].Consts, api.Const{Kind: api.Text, S: c.text()})
		}
		s, _ := listing.Text(p)
		for range 20 {
			mangled := s
			for range 1 + d.Below(2) {
				mangled = c.mangle(mangled)
			}
			if alikeParse(t, mangled) == api.OK {
				right++
			} else {
				wrong++
			}
		}
	}
	if right < 1500 || wrong < 10000 {
		t.Errorf("%d right, %d wrong", right, wrong)
	}
}

// P10.2: bits one behind the other.
func TestSoup(t *testing.T) {
	for seed := range 30000 {
		d := samples.Dice(seed)
		s := ""
		if d.Below(2) == 0 {
			s = nop
		}
		for range d.Below(12) {
			s += d.Of(bits...) + d.Of("", " ", " ", "\n")
		}
		alikeParse(t, s)
	}
}

// P10.2: all that lines may end with, for a few bytes.
func TestShortEnds(t *testing.T) {
	const bytes = "\"\\n -01\na\xe2"
	for _, head := range []string{"", "fn ", `fn "`, `fn "" `, "cap ", "int ", "int -922337203685477580", "text ", `text "`, `text "\`, "0", "0 ", "0 jump ", "0 nil", "0 bin ", "catch 0 1 1 "} {
		for length := range 5 {
			s := make([]byte, length)
			var fill func(i int)
			fill = func(i int) {
				if i == length {
					alikeParse(t, "fn \"\" 0 0\n"+head+string(s)+"\n0 nil\n0 return\n")
					return
				}
				for _, c := range []byte(bytes) {
					s[i] = c
					fill(i + 1)
				}
			}
			fill(0)
		}
	}
}
