package listing_test

import (
	"runtime"
	"slices"
	"strings"
	"testing"

	"gearbox/api"
	"gearbox/listing"
)

// rows: a line, so many times.
func rows(line string, n int) string { return strings.Repeat(line+"\n", n) }

// wantGreat: a text that has code, as long as it is.
func wantGreat(t *testing.T, s string) {
	t.Helper()
	p, n, e := listing.Parse(s)
	if n != 0 || e != api.OK {
		t.Errorf("Parse(%.100q): %d, %d", s, n, e)
		return
	}
	if text, e := listing.Text(p); text != s || e != api.OK {
		t.Errorf("Text of Parse(%.100q) is another one: %d", s, e)
	}
}

// P10.2: as many of each row as may be; one more, and many more, are refused behind all lines, or at the first line that is none.
func TestAsManyAsMayBe(t *testing.T) {
	makes := told(`fn "" 0 1`, "0 fn 1", "0 return", `fn "" 0 0`)
	for _, x := range []struct {
		ahead, line, behind string
		most                int
	}{
		{nop, strings.TrimSuffix(nop, "\n"), "", api.MaxFns - 1},
		{makes, "cap 0", "0 nil\n0 return\n", api.MaxParts},
		{"fn \"\" 0 0\n", "int 1", "0 nil\n0 return\n", api.MaxCode},
		{"fn \"\" 0 0\n", `text "a"`, "0 nil\n0 return\n", api.MaxCode},
		{"fn \"\" 0 0\n", "7 jump 16383", "8 loop 0\n", api.MaxCode - 1},
		{"fn \"\" 0 0\n0 nil\n0 return\n", "catch 0 1 1 0", "", api.MaxCode},
	} {
		wantGreat(t, x.ahead+rows(x.line, x.most)+x.behind)
		for _, n := range []int{x.most + 1, x.most + 2, 3 * x.most, 100000} {
			s := x.ahead + rows(x.line, n) + x.behind
			all := strings.Count(s, "\n")
			wantRefused(t, s, all)
			wantRefused(t, s+"bad\n", all)
			wantRefused(t, s+"0 nil 0\n"+nop, all)
			wantRefused(t, s+"fn \"\" 0 0", all)
			wantRefused(t, s+nop, all+3)
		}
	}
	wantRefused(t, rows(`fn "" 0 0`, 300)+rows("int 1", 20000)+rows("0 nil", 20000)+rows("catch 0 0 0 0", 20000), 60300)
}

// P10.1, P10.3: code as great as may be in all its parts.
func TestGreatest(t *testing.T) {
	f := api.Fn{Name: strings.Repeat("\n", api.MaxText), Locals: api.MaxLocals}
	for i := range api.MaxCode {
		f.Consts = append(f.Consts, api.Const{Kind: api.Int, N: int64(-i)})
		f.Code, f.Lines = append(f.Code, ins(api.OpJump, api.MaxCode-1)), append(f.Lines, 1<<40+i)
		f.Handlers = append(f.Handlers, api.Handler{To: api.MaxCode - 2, At: api.MaxCode - 2, Deep: 0})
	}
	f.Code[api.MaxCode-3], f.Code[api.MaxCode-2], f.Code[api.MaxCode-1] = ins(api.OpJump, api.MaxCode-1), ins(api.OpPop), ins(api.OpLoop, 0)
	p := slices.Repeat(api.Program{f}, 8)
	s, e := listing.Text(p)
	if e != api.OK {
		t.Fatal(e)
	}
	if q, n, e := listing.Parse(s); !same(p, q) || n != 0 || e != api.OK {
		t.Errorf("%d, %d", n, e)
	}
}

// R1: long lines, and very many of them.
func TestLongTexts(t *testing.T) {
	const long = 1 << 22
	for _, s := range []string{
		strings.Repeat("0", long), strings.Repeat("9", long) + " nil\n", strings.Repeat(" ", long), strings.Repeat("\n", long), strings.Repeat(`"`, long), strings.Repeat(`\`, long),
		`fn "` + strings.Repeat("a", long), `fn "` + strings.Repeat(`\n`, long), `fn "` + strings.Repeat(`\`, long+1) + "\" 0 0\n", "fn \"\" 0" + strings.Repeat(" 0", long) + "\n", "catch" + strings.Repeat(" 0", long) + "\n",
	} {
		wantRefused(t, s, 0)
	}
	wantRefused(t, `fn "`+strings.Repeat(`\n`, long)+"\" 0 0\n0 nil\n0 return\n", 3)
	wantRefused(t, "fn \"\" 0 0\n"+rows("0 nil", long/4), 1+long/4)
	wantRefused(t, rows(`fn "" 0 0`, long/4), long/4)
}

// R1: code that is far too great asks for no more memory than code may have.
func TestMemoryOfGreat(t *testing.T) {
	s := rows(`fn "" 0 0`, 1<<20)
	var ahead, behind runtime.MemStats
	runtime.ReadMemStats(&ahead)
	wantRefused(t, s, 1<<20)
	runtime.ReadMemStats(&behind)
	if asked := behind.TotalAlloc - ahead.TotalAlloc; asked > 1<<24 {
		t.Errorf("%d bytes", asked)
	}
}
