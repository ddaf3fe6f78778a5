package interp_test

import (
	"fmt"
	"slices"
	"strings"
	"testing"
	"unsafe"

	"gearbox/api"
	"gearbox/samples"
	"gearbox/trials"
)

// wantOut: what a program prints, each thing twice: once by print, once as the text that $ makes of it.
func wantOut(t *testing.T, made string, values []string, out ...string) {
	t.Helper()
	text := made
	var want []string
	for i, v := range values {
		text += fmt.Sprintf("try { print %s; } catch e { print e; } try { print #$(%s); } catch e { print e; }", v, v)
		want = append(want, out[i], fmt.Sprint(len(out[i])))
		if out[i] == "great" {
			want[len(want)-1] = "great"
		}
	}
	p := of(t, text)
	if o := alike(t, p, api.MaxWords, api.MaxFuel, nil, every(100)); o.End != api.EndDone || !slices.Equal(o.Out, want) {
		t.Errorf("%.300s: %s, want %.500q", text, brief(o), want)
	}
}

// P13.1: texts of lists and maps, just as long as may be, and longer; whatever is in them.
func TestLongest(t *testing.T) {
	fill := func(n int, x string) string { return fmt.Sprintf("(all(%d, %s))", n, x) }
	made := `var all = fn(n, x) { var l = []; while #l < n { l[#l] = x; } return l; };
		var long = fn(n) { var s = "x"; while #s < n { if n < #s + #s { s = s + "y"; } else { s = s + s; } } return s; }; `
	row := func(n int, x, between string) string {
		return "[" + strings.Join(slices.Repeat([]string{x}, n), between) + "]"
	}
	values := []string{
		fill(2048, `""`), // 2 bytes, and 2 between each two
		fill(2049, `""`),
		fill(60000, `""`),
		fill(1365, `1`), // 3 bytes each, and one for nothing
		fill(1366, `1`),
		fill(819, `[""]`), // 4 bytes each
		fill(1024, `[]`),
		fill(1025, `[]`),
		fill(1024, `{}`),
		fill(682, `[nil]`),
		fill(300, fill(300, `""`)),
		fill(1000, `"`+strings.Repeat("0123456789", 400)+`"`),
	}
	var out []string
	for _, s := range []string{
		row(2048, "", ", "), "great", "great", row(1365, "1", ", "), "great", row(819, "[]", ", "),
		row(1024, "[]", ", "), "great", row(1024, "{}", ", "), row(682, "[nil]", ", "), "great", "great",
	} {
		if len(s) > api.MaxText {
			s = "great"
		}
		out = append(out, s)
	}
	wantOut(t, made, values, out...)
	wantOut(t, made, []string{"long(4096)", "long(4094)", "[long(4094)]", "[long(4095)]", `[long(4092), ""]`, `{long(4092): ""}`, `{"": long(4092)}`, `{"": long(4093)}`},
		longs(4096), longs(4094), "["+longs(4094)+"]", "great", "["+longs(4092)+", ]", "{"+longs(4092)+": }", "{: "+longs(4092)+"}", "great")
}

// longs: the text of so many bytes that the program's long makes.
func longs(n int) string {
	s := "x"
	for len(s) < n {
		if n < 2*len(s) {
			s += "y"
		} else {
			s += s
		}
	}
	return s
}

// twice: a list that has itself twice, so many levels of it.
func twice(n int) string {
	if n == 0 {
		return ".."
	}
	return "[" + twice(n-1) + ", " + twice(n-1) + "]"
}

// P13.1: lists within lists: as deep as is shown, deeper, and without end.
func TestDeepest(t *testing.T) {
	made := `var within = fn(n, x) { while 0 < n { x = [x]; n = n - 1; } return x; };
		var inMaps = fn(n, x) { while 0 < n { x = {x: x}; n = n - 1; } return x; };
		var self = []; self[0] = self; var m = {}; m[1] = m;
		var both = [[], nil]; both[1] = both; both[0][0] = both;
		var twice = []; twice[0] = twice; twice[1] = twice; var thrice = [nil, nil, nil]; thrice[0] = thrice; thrice[1] = thrice; thrice[2] = thrice;
		var high = within(5, 1); var mixed = [high, within(4, high), within(3, high), high]; `
	in := func(n int, x string) string { return strings.Repeat("[", n) + x + strings.Repeat("]", n) }
	wantOut(t, made, []string{"within(8, 1)", "within(9, 1)", "within(9, [])", "within(8, [])", "within(10, 1)", "self", "m", "within(9, fn() { })", "inMaps(2, 1)", "mixed", "twice", "thrice"},
		in(8, "1"), in(9, "1"), in(9, ".."), in(9, ""), in(9, ".."), in(9, ".."), strings.Repeat("{1: ", 9)+".."+strings.Repeat("}", 9), in(9, "fn 3"), "{{1: 1}: {1: 1}}",
		"["+in(5, "1")+", "+in(8, "..")+", "+in(8, "1")+", "+in(5, "1")+"]", twice(9), "great")
	p := of(t, made+`print both; print inMaps(9, 1);`)
	alike(t, p, api.MaxWords, 1000, nil, every(100))
}

// P13.1: texts of any lists and maps, that lead to one another.
func TestTextsOfAny(t *testing.T) {
	great := 0
	for seed := range 400 {
		d := samples.Dice(seed)
		text := "var l = [[], {}, [], {}, [], {}];"
		for range 3 + d.Below(22) {
			v := d.Of("l[0]", "l[1]", "l[2]", "l[3]", "l[4]", "l[5]", "l", `""`, `"a"`, "7", "nil", "yes", "fn() { }", "[[]]")
			switch n := d.Below(6); {
			case n%2 == 1:
				text += fmt.Sprintf("l[%d][%s] = %s;", n, d.Of("1", `""`, "nil", "l[0]", "l[3]", "yes"), v)
			default:
				text += fmt.Sprintf("l[%d][#l[%d]] = %s;", n, n, v)
			}
		}
		p := of(t, text+"try { print l; } catch e { print e; } print #$l[0]; print l[1];")
		if o := alike(t, p, 10000, 100, nil, every(9)); len(o.Out) > 0 && o.Out[0] == "great" {
			great++
		}
	}
	if great < 20 || great > 300 {
		t.Error(great)
	}
}

// span: from where to where a text is in memory.
type span [2]uintptr

func spanOf(s string) span {
	at := uintptr(unsafe.Pointer(unsafe.StringData(s)))
	return span{at, at + uintptr(len(s))}
}

// R4: what is printed and thrown is in memory of its own: of no constant, and of no other text that was told.
func TestTextsApart(t *testing.T) {
	text := strings.Repeat("some text ", 3)
	f := trials.Fn("Const Dup Print Dup Print Dup Store Print Load Print Const 1 Print Const 1 Print Load Throw", trials.Consts(text, "x"), trials.Locals(1))
	spans := []span{spanOf(f.Consts[0].S), spanOf(f.Consts[1].S)}
	for range 2 {
		o := run(t, api.Program{f}, 100, 0, nil)
		if o.Value != text || len(o.Out) != 6 {
			t.Fatal(o)
		}
		for _, s := range append(o.Out, o.Value) {
			spans = append(spans, spanOf(s))
		}
	}
	slices.SortFunc(spans, func(a, b span) int { return slices.Compare(a[:], b[:]) })
	for i := range spans[1:] {
		if spans[i+1][0] < spans[i][1] {
			t.Fatal("two texts share memory")
		}
	}
}
