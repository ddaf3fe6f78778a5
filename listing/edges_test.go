package listing_test

import (
	"math"
	"slices"
	"strconv"
	"strings"
	"testing"

	"gearbox/api"
	"gearbox/listing"
)

// quotes: texts, and how they stand in quotes.
var quotes = [][2]string{
	{"", `""`}, {"a", `"a"`}, {" ", `" "`}, {"  a  b ", `"  a  b "`}, {"n", `"n"`},
	{`"`, `"\""`}, {`""`, `"\"\""`}, {`\`, `"\\"`}, {`\\`, `"\\\\"`}, {"\n", `"\n"`}, {"\n\n", `"\n\n"`},
	{`\n`, `"\\n"`}, {"\\\n", `"\\\n"`}, {"\n\\", `"\n\\"`}, {`\"`, `"\\\""`}, {`"\`, `"\"\\"`}, {"\"\n\"", `"\"\n\""`}, {`a"b\c`, `"a\"b\\c"`},
	{"\x00", "\"\x00\""}, {"\t\r\v", "\"\t\r\v\""}, {"\xff\xfe\xe2", "\"\xff\xfe\xe2\""}, {"é €", `"é €"`}, {"\u2028\u0085", "\"\u2028\u0085\""},
	{"0 nil", `"0 nil"`}, {`" 0 0`, `"\" 0 0"`}, {"\nfn", `"\nfn"`}, {"'`", "\"'`\""}, {"%d", `"%d"`}, {"\ufffd", "\"\ufffd\""},
}

// P10.1, P10.2: texts in quotes, as a name and as a constant.
func TestQuotes(t *testing.T) {
	for _, q := range quotes {
		p := api.Program{plain()}
		p[0].Name, p[0].Consts = q[0], []api.Const{{Kind: api.Text, S: q[0]}, {Kind: api.Text}, {Kind: api.Text, S: q[0]}}
		wantBoth(t, p, told("fn "+q[1]+" 0 0", "text "+q[1], `text ""`, "text "+q[1], "0 nil", "0 return"))
	}
	all := make([]byte, 256)
	for i := range all {
		all[i] = byte(i)
		c := string(all[i : i+1])
		alikeText(t, api.Program{{Name: c, Consts: []api.Const{{Kind: api.Text, S: "\\" + c + "\""}}, Code: plain().Code, Lines: plain().Lines}})
		alikeParse(t, told("fn \"\\"+c+"\" 0 0", "0 nil", "0 return")) // behind a backslash
		alikeParse(t, told(`fn "`+c+`" 0 0`, "0 nil", "0 return"))
		alikeParse(t, told(`fn ""`+c+` 0 0`, "0 nil", "0 return"))
		alikeParse(t, told(`fn "" 0`+c+`0`, "0 nil", "0 return"))
		alikeParse(t, told(`fn "" 0 `+c, "0 nil", "0 return"))
		alikeParse(t, told(`fn "" 0 0`+c, "0 nil", "0 return"))
		alikeParse(t, c+nop)
		alikeParse(t, nop+c)
	}
	alikeText(t, api.Program{{Name: string(all), Consts: []api.Const{{Kind: api.Text, S: string(all)}}, Code: plain().Code, Lines: plain().Lines}})
}

// P10.2: what is no text in quotes, as a name and as a constant, in its own line.
func TestNoQuotes(t *testing.T) {
	for _, s := range []string{
		"", "a", `"`, `"a`, `a"`, `"\"`, `"a\"`, `"\\\"`, `"\`, `"\a"`, `"\N"`, `"\t"`, `"\0"`, `"\x41"`, `"\u0041"`, `"\ "`, `"\é"`,
		`"""`, `"a""b"`, `"a" "b"`, `"a"b`, ` "a"`, `"a" `, `""" `, "'a'", "`a`", `\"a\"`, `"a"\`, "\t\"a\"", "\"a\"\r", "\"\n\"", "\"a\n", "\xff\"a\"", "nil", "0",
	} {
		wantRefused(t, nop+"fn "+s+" 0 0\n0 nil\n0 return\n", 3)
		wantRefused(t, nop+"fn \"\" 0 0\ntext "+s+"\n0 nil\n0 return\n", 4)
	}
	wantRefused(t, nop+"fn\n", 3)
	wantRefused(t, told(`fn "" 0 0`, "text", "0 nil", "0 return"), 1)
}

// P10.1, P10.2: numbers at their limits.
func TestNumbers(t *testing.T) {
	p := api.Program{plain()}
	var lines []string
	for _, n := range []int64{0, 1, -1, 9, 10, -10, 100, 1 << 31, -1 << 31, 1 << 32, 1 << 62, math.MaxInt64 - 1, math.MaxInt64, math.MinInt64 + 1, math.MinInt64} {
		p[0].Consts = append(p[0].Consts, api.Const{Kind: api.Int, N: n})
		lines = append(lines, "int "+strconv.FormatInt(n, 10))
	}
	p[0].Lines = []int{math.MaxInt, 0}
	p[0].Locals = api.MaxLocals
	wantBoth(t, p, told(`fn "" 0 64`, strings.Join(lines, "\n"), "9223372036854775807 nil", "0 return"))
	f := api.Fn{Params: 64, Locals: 64, Code: plain().Code, Lines: []int{1 << 40, 10}}
	wantBoth(t, api.Program{plain(), f}, nop+told(`fn "" 64 64`, "1099511627776 nil", "10 return"))
}

// holes: lines in which each ? may be any number, as far as the line alone tells.
var holes = []string{`fn "" ? 0`, `fn "" 0 ?`, "cap ?", "up ?", "int ?", "0 const ?", "0 load ?", "0 store ?", "0 cell ?", "0 cellload ?", "0 cellstore ?", "0 up ?", "0 upstore ?", "0 jump ?", "0 unless ?", "0 loop ?", "0 list ?", "0 map ?", "0 fn ?", "0 call ?", "catch ? 0 0 0", "catch 0 ? 0 0", "catch 0 0 ? 0", "catch 0 0 0 ?"}

// P10.2: what is no number, wherever one is asked for; what is one, if not one that may be, is no fault of its line.
func TestHoles(t *testing.T) {
	for _, hole := range holes {
		at := 4
		ahead := nop + "fn \"\" 0 0\n"
		if strings.HasPrefix(hole, "fn") {
			at, ahead = 3, nop
		}
		for _, n := range []string{
			"", " ", "-", "--1", "-0", "00", "01", "-01", "007", "+0", "+1", "1_0", "0x1", "1e1", "1.", "1.0", ".1", "0 0", "1 ", " 1", "1\t", "1\r", "- 1", "1-", "a", "nil", "add", `"1"`, "\x00", "٣", "½", "∞",
			"9223372036854775808", "-9223372036854775809", "18446744073709551616", "99999999999999999999999", "-99999999999999999999999", strings.Repeat("9", 5000), strings.Repeat("0", 5000),
		} {
			wantRefused(t, ahead+strings.Replace(hole, "?", n, 1)+"\n", at)
			wantRefused(t, ahead+strings.Replace(hole, "?", n, 1)+"\n0 nil\n0 return\n", at)
		}
		for _, n := range []string{"-1", "-9223372036854775808", "9223372036854775807", "4294967296", "-10"} {
			if strings.HasPrefix(hole, "int") {
				continue
			}
			wantRefused(t, ahead+strings.Replace(hole, "?", n, 1)+"\n", at+1)
		}
	}
	for _, n := range []string{"", "-1", "-0", "00", "+1", "9223372036854775808", "-9223372036854775808", "1.0", "nil", `"0"`, " 0", "0 ", "\t0"} {
		wantRefused(t, nop+"fn \"\" 0 0\n"+n+" nil\n0 return\n", 4)
		wantRefused(t, nop+"fn \"\" 0 0\n0 nil\n"+n+" return\n", 5)
	}
}

// P10.2: lines that are of no row.
func TestNoRow(t *testing.T) {
	for _, line := range []string{
		"", " ", "\t", "\r", "\x00", "nil", "return", "0", "0 ", "0  nil", " 0 nil", "0 nil ", "0 nil\r", "0\tnil", "0 Nil", "0 NIL", "0 nul", "0 ni", "0 nill", "0 none", "0 nop", `0 "nil"`, "0 0", "0 nil nil", "nil 0", "0 nil 0", "0 return 0", "0 return -",
		"0 const", "0 const ", "0 const nil", "0 const 0 0", "0 const add", "0 bin", "0 bin ", "0 bin 1", "0 bin 0", "0 bin none", "0 bin Add", "0 bin addd", "0 bin +", "0 bin add add", "0 bin add 1", "0 bin nil", "0 add", "0 bin  add", "0 pop 0", "0 dup 1", "0 not 0", "0 get 0", "0 put 0", "0 throw 0", "0 print 0",
		"0 text", "0 int 1", "0 cap 0", "0 catch 0 1 1 0", "cap", "cap ", "cap 0 0", "cap nil", "up", "up 0 0", "Cap 0", "int", "int ", "int 1 1", `int "1"`, "Int 1", "text", "text 1", `text "a" "b"`, `Text "a"`, `text  "a"`,
		"catch", "catch 0", "catch 0 1", "catch 0 1 1", "catch 0 1 1 0 0", "catch 0 1  1 0", "catch 0 1 1 ", "Catch 0 1 1 0", "catch nil", "fn", "fn 0 0", `fn ""`, `fn "" 0`, `fn "" 0 `, `fn "" 0 0 0`, `fn "" 0 0 `, `fn 0 0 ""`, `fn  "" 0 0`, `Fn "" 0 0`, `fun "" 0 0`, `fn"" 0 0`, `fn ""0 0`, ` fn "" 0 0`, "// 0 nil", "# 0 nil", "0 nil // nil", ";", "local 0",
	} {
		wantRefused(t, told(`fn "" 0 0`, line, "0 nil", "0 return"), 1)
		wantRefused(t, nop+told(line, "0 nil", "0 return"), 3)
		wantRefused(t, line+"\n"+nop, 0)
		if line != "" {
			wantRefused(t, nop+line, 3)
		}
	}
}

// P10.2: the first line that is wrong, whichever comes behind; a line without its byte 10 is wrong, too.
func TestFirstFault(t *testing.T) {
	lines := strings.SplitAfter(everyWordText, "\n")
	lines = lines[:len(lines)-1]
	for i := range lines {
		for _, bad := range []string{"nop\n", "\n", "0 nil 0\n", " " + lines[i], strings.TrimSuffix(lines[i], "\n") + " \n"} {
			spoilt := slices.Clone(lines)
			spoilt[i] = bad
			wantRefused(t, strings.Join(spoilt, ""), i)
			wantRefused(t, strings.Join(spoilt[:i+1], ""), i)
			spoilt[len(lines)-1] = "bad"
			wantRefused(t, strings.Join(spoilt, ""), i)
			if i > 0 {
				spoilt[i-1] = "bad\n"
				wantRefused(t, strings.Join(spoilt, ""), i-1)
			}
		}
		begun := strings.Join(lines[:i], "")
		for cut := 1; cut < len(lines[i]); cut++ {
			wantRefused(t, begun+lines[i][:cut], i)
		}
	}
	for cut := range everyWordText {
		alikeParse(t, everyWordText[:cut])
		alikeParse(t, everyWordText[cut:])
	}
}

// P10.2: lines of all rows in any order.
func TestOrder(t *testing.T) {
	rows := []string{`fn "" 0 1`, "cap 0", "up 0", "int 1", `text "a"`, "0 nil", "0 return", "catch 0 1 1 0"}
	right := 0
	var lines []string
	var more func(n int)
	more = func(n int) {
		if alikeParse(t, nop+strings.Join(append(lines, ""), "\n")) == api.OK {
			right++
		}
		alikeParse(t, strings.Join(append(lines, ""), "\n"))
		if n == 0 {
			return
		}
		for _, row := range rows {
			lines = append(lines, row)
			more(n - 1)
			lines = lines[:len(lines)-1]
		}
	}
	more(5)
	if right < 20 {
		t.Errorf("%d right", right)
	}
	// Each pair, by hand: which row may stand behind which one.
	for behind, may := range []string{"01234567", "012", "012", "01234", "01234", "0123456", "0123456", "01234567"} {
		for ahead := range rows {
			s := told(`fn "" 0 0`, rows[ahead], rows[behind], "bad")
			want := 2
			if strings.Contains(may, strconv.Itoa(ahead)) {
				want = 3
			}
			wantRefused(t, s, want)
		}
		want := 0
		if behind == 0 {
			want = 1
		}
		wantRefused(t, told(rows[behind], "bad"), want)
	}
}

// P10.2: code that may not be: the number of all lines.
func TestMayNotBe(t *testing.T) {
	long := strings.Repeat("n", api.MaxText+1)
	for _, s := range []string{
		"", "fn \"\" 0 0\n", told(`fn "" 0 0`, "0 nil"), told(`fn "" 0 0`, "0 return"), told(`fn "" 1 1`, "0 nil", "0 return"), told(`fn "" 0 65`, "0 nil", "0 return"), told(`fn "" 0 -1`, "0 nil", "0 return"), told(`fn "" 0 1`, "cap 0", "0 nil", "0 return"),
		nop + told(`fn "" 0 0`, "cap 0", "0 nil", "0 return"), nop + told(`fn "" 2 1`, "0 nil", "0 return"), told(`fn "" 0 0`, "0 load 0", "0 return"), told(`fn "" 0 0`, "0 const 0", "0 return"), told(`fn "" 0 0`, "0 nil", "0 loop 1"), told(`fn "" 0 0`, "0 nil", "0 return", "catch 0 2 1 0"),
		told(`fn "`+long+`" 0 0`, "0 nil", "0 return"), told(`fn "" 0 0`, `text "`+long+`"`, "0 nil", "0 return"), nop + "fn \"\" 0 0\n" + nop, strings.Repeat(nop, api.MaxFns+1),
	} {
		wantRefused(t, s, strings.Count(s, "\n"))
	}
}

// P10.1, P10.2: the longest names and texts, which are longer in quotes.
func TestLongest(t *testing.T) {
	for _, c := range []string{"a", `"`, `\`, "\n", " ", "\xff"} {
		longest := strings.Repeat(c, api.MaxText)
		p := api.Program{{Name: longest, Consts: []api.Const{{Kind: api.Text, S: longest}}, Code: plain().Code, Lines: plain().Lines}}
		s, e := alikeText(t, p)
		if e != api.OK {
			t.Errorf("%q: %d", c, e)
		}
		p[0].Name += c
		wantNone(t, p)
		wantRefused(t, strings.Replace(s, "\" 0 0", escape.Replace(c)+"\" 0 0", 1), 4)
		wantRefused(t, strings.Replace(s, "\"\n0 nil", escape.Replace(c)+"\"\n0 nil", 1), 4)
	}
}

// R4: lists that are empty mean the same as nil ones.
func TestEmpty(t *testing.T) {
	f := plain()
	f.Caps, f.Consts, f.Handlers = []api.Cap{}, []api.Const{}, []api.Handler{}
	wantBoth(t, api.Program{f}, nop)
	if p, n, e := listing.Parse(nop); len(p) != 1 || len(p[0].Caps)+len(p[0].Consts)+len(p[0].Handlers) != 0 || n != 0 || e != api.OK {
		t.Errorf("%s, %d, %d", brief(p), n, e)
	}
}
