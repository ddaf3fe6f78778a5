package lex_test

import (
	"fmt"
	"slices"
	"strconv"
	"strings"
	"testing"

	"gearbox/api"
	"gearbox/lex"
)

func name(s string) api.Word  { return api.Word{Kind: api.WName, S: s} }
func num(n int64) api.Word    { return api.Word{Kind: api.WInt, N: n} }
func says(s string) api.Word  { return api.Word{Kind: api.WText, S: s} }
func sign(s string) api.Word  { return api.Word{Kind: api.WSign, S: s} }
func quoted(s string) string  { return `"` + s + `"` }
func brief(x any) string      { return fmt.Sprintf("%.300q", fmt.Sprintf("%+v", x)) }
func many(s string) string    { return strings.Repeat(s, api.MaxText) }
func blanks(n int) string     { return strings.Repeat(" ", n) }
func countLines(s string) int { return strings.Count(s, "\n") }

// on is a word in another line.
func on(line int, w api.Word) api.Word {
	w.Line = line
	return w
}

func wantWords(t *testing.T, s string, want ...api.Word) {
	t.Helper()
	if l, n, e := lex.Words(s); !slices.Equal(l, want) || n != 0 || e != api.OK {
		t.Errorf("Words(%.300q) = %s, %d, %d, not %s", s, brief(l), n, e, brief(want))
	}
}

func wantError(t *testing.T, s string, line int, want api.Errno) {
	t.Helper()
	if l, n, e := lex.Words(s); len(l) != 0 || n != line || e != want {
		t.Errorf("Words(%.300q) = %s, %d, %d, not none, %d, %d", s, brief(l), n, e, line, want)
	}
}

// wantFault asks for ErrWord where a text stands alone, behind idle lines, behind words, and ahead of what would be words.
func wantFault(t *testing.T, s string) {
	t.Helper()
	for _, behind := range []string{"", " ", "\n", "\na\nb", " // so", ";\n\n"} {
		wantError(t, s+behind, 0, api.ErrWord)
		wantError(t, "\n"+s+behind, 1, api.ErrWord)
		wantError(t, "a = 1;\n// \" &\n \n\t"+s+behind, 3, api.ErrWord)
		wantError(t, `"\n\n";`+s+behind, 0, api.ErrWord)
	}
}

// P5.1: the chapter's examples.
func TestExamples(t *testing.T) {
	wantWords(t, "var x=-5; // so\nx<=y", name("var"), name("x"), sign("="), sign("-"), num(5), sign(";"), on(1, name("x")), on(1, sign("<=")), on(1, name("y")))
	wantWords(t, "a==b!=c<d", name("a"), sign("=="), name("b"), sign("!="), name("c"), sign("<"), name("d"))
	wantWords(t, "a= =b", name("a"), sign("="), sign("="), name("b"))
	wantWords(t, "[1,2]{#$%:}", sign("["), num(1), sign(","), num(2), sign("]"), sign("{"), sign("#"), sign("$"), sign("%"), sign(":"), sign("}"))
	wantWords(t, `"x\"y\n"`, says("x\"y\n"))
	wantWords(t, "_a1 A", name("_a1"), name("A"))
	wantWords(t, "")
	wantWords(t, "//")
	for _, s := range []string{"5a", "01", "9223372036854775808", "!", `"a`, `"a\x"`, "&"} {
		wantError(t, s, 0, api.ErrWord)
	}
	wantError(t, "a\n\n>", 2, api.ErrWord)
	wantError(t, blanks(65537), 0, api.ErrLimit)
	wantError(t, quoted(many("x")+"x"), 0, api.ErrWord)
}

// P5.1: every byte by itself, between others, in a text, in a remark.
func TestEachByte(t *testing.T) {
	const letters = "_abcdefghijklmnopqrstuvwxyzABCDEFGHIJKLMNOPQRSTUVWXYZ"
	for i := range 256 {
		s := string([]byte{byte(i)})
		switch {
		case s == " " || s == "\t" || s == "\n":
			wantWords(t, s)
			wantWords(t, "a"+s+"b", name("a"), on(countLines(s), name("b")))
		case strings.Contains(letters, s):
			wantWords(t, s, name(s))
			wantWords(t, "a"+s+"b", name("a"+s+"b"))
		case strings.Contains("0123456789", s):
			wantWords(t, s, num(int64(i-'0')))
			wantWords(t, "a"+s+"b", name("a"+s+"b"))
		case strings.Contains("(){}[],;:=<+-*/%#$", s):
			wantWords(t, s, sign(s))
			wantWords(t, "a"+s+"b", name("a"), sign(s), name("b"))
		default:
			wantFault(t, s)
			wantError(t, "a"+s+"b", 0, api.ErrWord)
		}
		if !strings.Contains("\"\\\n", s) {
			wantWords(t, quoted(s), says(s))
			wantWords(t, quoted("a"+s+s+"b"), says("a"+s+s+"b"))
		}
		wantWords(t, "//"+s+"\na", on(1+countLines(s), name("a")))
		wantWords(t, "a//b"+s, name("a"))
	}
}

// P5.1: names, as long as can be; key words are names.
func TestNames(t *testing.T) {
	for _, s := range []string{"a", "Z", "_", "__", "a0", "_9", "x1y2", "var", "if", "else", "while", "return", "print", "throw", "try", "catch", "not", "and", "or", "nil", "yes", "no", "fn"} {
		wantWords(t, s, name(s))
		wantWords(t, s+"("+s+")", name(s), sign("("), name(s), sign(")"))
	}
	wantWords(t, "iff nilnil a1b2 _1_", name("iff"), name("nilnil"), name("a1b2"), name("_1_"))
	wantWords(t, `a"b"c`, name("a"), says("b"), name("c"))
	for _, s := range []string{many("a"), many("_"), "a" + many("1")[1:]} {
		wantWords(t, s, name(s))
		wantWords(t, s+"\n"+s, name(s), on(1, name(s)))
		wantFault(t, s+"a")
		wantFault(t, s+"0")
		wantFault(t, s+s)
	}
	wantWords(t, "a//b", name("a"))
	wantFault(t, "aé")
	wantFault(t, "é")
}

// P5.1: numbers up to the greatest, none with a needless nought or with a letter right behind it.
func TestNumbers(t *testing.T) {
	for _, n := range []int64{0, 1, 9, 10, 100, 1000000007, 1<<31 - 1, 1 << 32, 1<<63 - 2, 1<<63 - 1} {
		s := strconv.FormatInt(n, 10)
		wantWords(t, s, num(n))
		wantWords(t, "-"+s+"-"+s, sign("-"), num(n), sign("-"), num(n))
		wantWords(t, s+quoted("a")+s, num(n), says("a"), num(n))
		wantWords(t, s+"//a", num(n))
		wantFault(t, "0"+s)
		for _, c := range []string{"a", "z", "A", "Z", "_", "e1", "x", "_1", "é", "."} {
			wantFault(t, s+c)
		}
	}
	for _, s := range []string{"9223372036854775808", "9223372036854775810", "10000000000000000000", "18446744073709551616", "18446744073709551617", many("1"), many("9"), "00", "000", "0_0", "0x1", "0b1", "1_000"} {
		wantFault(t, s)
	}
	wantWords(t, "0 0 1 0", num(0), num(0), num(1), num(0))
	wantError(t, strings.Repeat("9", api.MaxSource), 0, api.ErrWord)
	wantError(t, "0"+strings.Repeat("0", api.MaxSource-1), 0, api.ErrWord)
}

// P5.1: texts, and what their bytes stand for.
func TestTexts(t *testing.T) {
	for in, want := range map[string]string{
		``: "", ` `: " ", `\"`: `"`, `\\`: `\`, `\n`: "\n", `\\n`: `\n`, `\\\n`: "\\\n", `\\\\`: `\\`, `\\\"`: `\"`, `a\"b\\c\nd`: "a\"b\\c\nd",
		`//`: "//", ` // a`: " // a", "\t": "\t", "\r": "\r", "\x00": "\x00", "é\xff\xe2": "é\xff\xe2", `n`: "n", `\"\"`: `""`, `&>'!`: "&>'!",
	} {
		wantWords(t, quoted(in), says(want))
		wantWords(t, quoted(in)+quoted(in), says(want), says(want))
		wantWords(t, "a"+quoted(in)+"b\n"+quoted(in), name("a"), says(want), name("b"), on(1, says(want)))
	}
	for _, s := range []string{`"`, `"a`, `"\"`, `"\\\"`, `"\`, `"a\`, `"""`, `"a""`} {
		wantFault(t, s)
	}
	for i := range 256 {
		if c := string([]byte{byte(i)}); !strings.Contains(`"\n`, c) {
			wantFault(t, `"\`+c+`"`)
			wantFault(t, `"a\\\`+c+`b"`)
		}
	}
	wantFault(t, "\"\n\"")
	wantFault(t, "\"a\nb\"")
	wantFault(t, "\"a\\\n\"")
	wantFault(t, "\"\xe2\n\"")
}

// P5.1: at most MaxText bytes, of those that a text stands for.
func TestLongTexts(t *testing.T) {
	wantWords(t, quoted(many("x")), says(many("x")))
	wantWords(t, quoted(many(`\n`)), says(many("\n")))
	wantWords(t, quoted(many(`\"`)), says(many(`"`)))
	wantWords(t, quoted(many(`\\`))+"a", says(many(`\`)), name("a"))
	wantWords(t, quoted(many("é")[:api.MaxText]), says(many("é")[:api.MaxText]))
	for _, c := range []string{"x", `\n`, `\"`, `\\`, " ", "é"} {
		wantFault(t, quoted(many("x")+c))
		wantFault(t, quoted(c+many(`\n`)))
		wantFault(t, quoted(many(c)+"x"))
		wantFault(t, `"`+many(c)+c)
	}
	wantError(t, quoted(strings.Repeat("x", api.MaxSource-2)), 0, api.ErrWord)
}

// P5.1: signs, as long as can be; those that there are none of.
func TestSigns(t *testing.T) {
	signs := strings.Fields("( ) { } [ ] , ; : = == != < <= + - * / % # $")
	for _, s := range signs {
		wantWords(t, s, sign(s))
		wantWords(t, "a"+s+"1", name("a"), sign(s), num(1))
		wantWords(t, s+quoted(s)+s, sign(s), says(s), sign(s))
		for _, u := range signs {
			wantWords(t, s+" "+u, sign(s), sign(u))
			if both := s + u; both != "==" && both != "<=" && both != "===" && both != "<==" && both != "//" {
				wantWords(t, both, sign(s), sign(u))
			}
		}
	}
	wantWords(t, "===", sign("=="), sign("="))
	wantWords(t, "====", sign("=="), sign("=="))
	wantWords(t, "<==", sign("<="), sign("="))
	wantWords(t, "<===", sign("<="), sign("=="))
	wantWords(t, "!==", sign("!="), sign("="))
	wantWords(t, "<<=", sign("<"), sign("<="))
	wantWords(t, "=<", sign("="), sign("<"))
	wantWords(t, "/ /", sign("/"), sign("/"))
	wantWords(t, "*//*", sign("*"))
	for _, s := range []string{"!", "! =", "!!=", "!a", ">", ">=", "=>", "&", "&&", "|", "^", "~", "@", "?", ".", "'", "`", `\`, "\r", "\v", "\f", "\x00", "\x7f", "\u00a0", "\ufeff", "≤"} {
		wantFault(t, s)
	}
}

// P5.1: what is idle, and the lines that it has.
func TestIdle(t *testing.T) {
	for _, s := range []string{" ", "\t", "\n", "  ", "\n\n", " \t\n\t ", "//", "// a", "//\n", "// a\n", "///", "////", "// \" & 01 !\n", "//a\n//b\n", "// é\xff\xe2\n \n", "//\r\n", "// a // b\n\n"} {
		wantWords(t, s)
		wantWords(t, s+"\na", on(countLines(s)+1, name("a")))
		wantWords(t, "a"+s+"\nb"+s, name("a"), on(countLines(s)+1, name("b")))
		wantWords(t, "a\n"+s+"\n1;", name("a"), on(countLines(s)+2, num(1)), on(countLines(s)+2, sign(";")))
		wantError(t, s+"\n&", countLines(s)+1, api.ErrWord)
		wantError(t, s+"\n"+`a "\n`, countLines(s)+1, api.ErrWord)
	}
	wantWords(t, "a\nb c\n\nd", name("a"), on(1, name("b")), on(1, name("c")), on(3, name("d")))
	wantWords(t, `"\n\n"`+" a", says("\n\n"), name("a"))
	wantWords(t, "1//2\n3", num(1), on(1, num(3)))
}

// P5.1: at most MaxSource bytes; of more, nothing is looked at.
func TestSource(t *testing.T) {
	most := api.MaxSource
	wantWords(t, blanks(most))
	wantWords(t, blanks(most-1)+"a", name("a"))
	wantWords(t, strings.Repeat("\n", most-1)+"a", on(most-1, name("a")))
	wantWords(t, "//"+strings.Repeat("&", most-2))
	wantWords(t, strings.Repeat(";", most), slices.Repeat([]api.Word{sign(";")}, most)...)
	wantError(t, strings.Repeat("\n", most-1)+"&", most-1, api.ErrWord)
	for _, s := range []string{" ", "\n", ";", "a", "&", `"`, "9", "//", "\xff"} {
		wantError(t, strings.Repeat(s, most)+s, 0, api.ErrLimit)
	}
	wantError(t, "\n\n&"+blanks(most), 0, api.ErrLimit)
	wantError(t, blanks(1<<22), 0, api.ErrLimit)
}

// R4, R5: an answer is memory of its own, spare room too, and hangs on nothing that was asked before.
func TestMemory(t *testing.T) {
	const s = "var a = \"b\";\nc"
	want := []api.Word{name("var"), name("a"), sign("="), says("b"), sign(";"), on(1, name("c"))}
	first, _, _ := lex.Words(s)
	second, _, _ := lex.Words(s)
	clear(first[:cap(first)])
	if !slices.Equal(second, want) {
		t.Errorf("two answers share memory: %v", second)
	}
	wantError(t, "\n\"", 1, api.ErrWord)
	wantWords(t, s, want...)
}
