package listing_test

import (
	"strings"
	"testing"

	"gearbox/api"
	"gearbox/gen"
	"gearbox/listing"
)

// nop: a function that does nothing, as text.
const nop = "fn \"\" 0 0\n0 nil\n0 return\n"

// wantBoth: a code and its text (P10.1), and back (P10.2, P10.3).
func wantBoth(t *testing.T, p api.Program, s string) {
	t.Helper()
	if got, e := listing.Text(p); got != s || e != api.OK {
		t.Errorf("Text(%s) = %.1000q, %d, not %.1000q", brief(p), got, e, s)
	}
	if got, n, e := listing.Parse(s); !same(got, p) || n != 0 || e != api.OK {
		t.Errorf("Parse(%.1000q) = %s, %d, %d, not %s", s, brief(got), n, e, brief(p))
	}
}

func wantRefused(t *testing.T, s string, line int) {
	t.Helper()
	if p, n, e := listing.Parse(s); p != nil || n != line || e != api.ErrForm {
		t.Errorf("Parse(%.1000q) = %s, %d, %d, not ErrForm %d", s, brief(p), n, e, line)
	}
}

func wantNone(t *testing.T, p api.Program) {
	t.Helper()
	if s, e := listing.Text(p); s != "" || e != api.ErrForm {
		t.Errorf("Text(%s) = %.1000q, %d, not ErrForm", brief(p), s, e)
	}
}

// plain: a function that returns nil.
func plain() api.Fn {
	return api.Fn{Code: []api.Ins{{Op: api.OpNil}, {Op: api.OpReturn}}, Lines: []int{0, 0}}
}

// told: a text's lines, each with a byte 10 behind it.
func told(lines ...string) string { return strings.Join(lines, "\n") + "\n" }

// The chapter's examples.
func TestExamples(t *testing.T) {
	p := api.Program{plain()}
	p[0].Lines[1] = 3
	wantBoth(t, p, "fn \"\" 0 0\n0 nil\n3 return\n")
	wantBoth(t, api.Program{plain()}, nop)
	some, _, _ := gen.Of(`var n = "a"; try { print n + 1; } catch c { }`)
	wantBoth(t, some, told(`fn "" 0 2`, `text "a"`, "int 1", "0 const 0", "0 store 0", "0 load 0", "0 const 1", "0 bin add", "0 print", "0 jump 8", "0 store 1", "0 nil", "0 return", "catch 2 6 7 0"))
	wantNone(t, nil)
	wantNone(t, api.Program{})
	for s, line := range map[string]int{
		"": 0, "0 nil\n": 0, "fn \"\" 0 0\n0 nop\n": 1, "fn \"\" 0 0\n0 nil 1\n": 1, "fn \"\" 0 0\n0 nil\nint 1\n": 2, "fn \"\" 0 0": 0,
		"fn \"\" 0 0\n0 nil\n": 2, "fn \"\" 0  0\n": 0, "fn \"\" 00 0\n": 0, "\n": 0,
	} {
		wantRefused(t, s, line)
	}
}

// ins: an instruction, with its number, if it has one.
func ins(op api.Op, a ...int) api.Ins {
	if len(a) == 0 {
		return api.Ins{Op: op}
	}
	return api.Ins{Op: op, A: a[0]}
}

func bin(b api.Bin) api.Ins { return ins(api.OpBin, int(b)) }

// everyWord: code in which all instructions, all signs and all rows come.
func everyWord() api.Program {
	main := api.Fn{
		Locals: 2,
		Consts: []api.Const{{Kind: api.Int, N: -7}, {Kind: api.Text, S: "t"}},
		Code: []api.Ins{
			ins(api.OpConst, 0), ins(api.OpStore, 0), ins(api.OpCell, 0), ins(api.OpConst, 1), ins(api.OpCellStore, 0), ins(api.OpCellLoad, 0), ins(api.OpDup), bin(api.Add),
			ins(api.OpNil), bin(api.Sub), ins(api.OpYes), bin(api.Mul), ins(api.OpNo), bin(api.Div), ins(api.OpLoad, 1), bin(api.Mod),
			ins(api.OpNil), bin(api.Less), ins(api.OpNil), bin(api.Most), ins(api.OpNil), bin(api.Same), ins(api.OpNil), bin(api.Unlike),
			ins(api.OpNot), ins(api.OpNeg), ins(api.OpLen), ins(api.OpShow), ins(api.OpPop), ins(api.OpYes), ins(api.OpUnless, 32), ins(api.OpLoop, 0),
			ins(api.OpJump, 33), ins(api.OpList, 0), ins(api.OpMap, 0), ins(api.OpGet), ins(api.OpNil), ins(api.OpNil), ins(api.OpPut),
			ins(api.OpFn, 1), ins(api.OpNil), ins(api.OpNil), ins(api.OpCall, 2), ins(api.OpPrint), ins(api.OpNil), ins(api.OpThrow),
			ins(api.OpStore, 1), ins(api.OpNil), ins(api.OpReturn),
		},
		Handlers: []api.Handler{{From: 36, To: 39, At: 46}, {From: 35, To: 36, At: 46, Deep: 0}},
	}
	for i := range main.Code {
		main.Lines = append(main.Lines, i/8)
	}
	inner := api.Fn{Name: "f", Params: 2, Locals: 3, Caps: []api.Cap{{N: 0}, {N: 1}}, Code: []api.Ins{ins(api.OpUp, 1), ins(api.OpUpStore, 0), ins(api.OpFn, 2), ins(api.OpReturn)}, Lines: []int{9, 10, 1000, 0}}
	innermost := api.Fn{Caps: []api.Cap{{Up: true, N: 1}, {N: 2}, {Up: true, N: 0}}, Code: []api.Ins{ins(api.OpUp, 2), ins(api.OpReturn)}, Lines: []int{3, 2}}
	return api.Program{main, inner, innermost}
}

const everyWordText = `fn "" 0 2
int -7
text "t"
0 const 0
0 store 0
0 cell 0
0 const 1
0 cellstore 0
0 cellload 0
0 dup
0 bin add
1 nil
1 bin sub
1 yes
1 bin mul
1 no
1 bin div
1 load 1
1 bin mod
2 nil
2 bin less
2 nil
2 bin most
2 nil
2 bin same
2 nil
2 bin unlike
3 not
3 neg
3 len
3 show
3 pop
3 yes
3 unless 32
3 loop 0
4 jump 33
4 list 0
4 map 0
4 get
4 nil
4 nil
4 put
4 fn 1
5 nil
5 nil
5 call 2
5 print
5 nil
5 throw
5 store 1
5 nil
6 return
catch 36 39 46 0
catch 35 36 46 0
fn "f" 2 3
cap 0
cap 1
9 up 1
10 upstore 0
1000 fn 2
0 return
fn "" 0 0
up 1
cap 2
up 0
3 up 2
2 return
`

// P10.1, P10.2: each word, each sign, each row.
func TestEveryWord(t *testing.T) {
	wantBoth(t, everyWord(), everyWordText)
	alikeText(t, everyWord())
	alikeParse(t, everyWordText)
}

// P10.1: no text of code that may not be.
func TestNoText(t *testing.T) {
	p := everyWord()
	p[2].Code[0].A = 3
	wantNone(t, p)
	for _, spoil := range []func(*api.Fn){
		func(f *api.Fn) { f.Name = strings.Repeat("n", api.MaxText+1) },
		func(f *api.Fn) { f.Params = 1 },
		func(f *api.Fn) { f.Locals = api.MaxLocals + 1 },
		func(f *api.Fn) { f.Caps = []api.Cap{{}} },
		func(f *api.Fn) { f.Consts = []api.Const{{Kind: api.Bool}} },
		func(f *api.Fn) { f.Consts = []api.Const{{Kind: api.Int, S: "1"}} },
		func(f *api.Fn) { f.Consts = []api.Const{{Kind: api.Text, N: 1}} },
		func(f *api.Fn) { f.Code[0].Op = api.OpNone },
		func(f *api.Fn) { f.Code[0].Op = 255 },
		func(f *api.Fn) { f.Code[0] = api.Ins{Op: api.OpBin, A: -1} },
		func(f *api.Fn) { f.Code[0].A = 1 },
		func(f *api.Fn) { f.Code, f.Lines = nil, nil },
		func(f *api.Fn) { f.Lines = f.Lines[:1] },
		func(f *api.Fn) { f.Lines = append(f.Lines, 0) },
		func(f *api.Fn) { f.Lines[1] = -1 },
		func(f *api.Fn) { f.Handlers = []api.Handler{{To: 1, At: 2}} },
	} {
		f := plain()
		spoil(&f)
		wantNone(t, api.Program{f})
	}
	wantNone(t, make(api.Program, api.MaxFns+1))
}

// P10.3: code that is unlike in one thing alone has another text.
func TestUnlike(t *testing.T) {
	texts := map[string]int{}
	for i, change := range []func(api.Program){
		func(p api.Program) {},
		func(p api.Program) { p[0].Name = "f" },
		func(p api.Program) { p[1].Name = "" },
		func(p api.Program) { p[1].Name = `f" 2 3` },
		func(p api.Program) { p[1].Name = "f\n" },
		func(p api.Program) { p[1].Name = "f\\n" },
		func(p api.Program) { p[1].Name = "f\\\n" },
		func(p api.Program) { p[1].Params = 1 },
		func(p api.Program) { p[1].Params, p[1].Locals = 0, 23 },
		func(p api.Program) { p[1].Locals = 4 },
		func(p api.Program) { p[1].Caps[1].N = 0 },
		func(p api.Program) { p[2].Caps[0].Up = false },
		func(p api.Program) { p[2].Caps = append(p[2].Caps, api.Cap{}) },
		func(p api.Program) { p[0].Consts[0].N = 7 },
		func(p api.Program) { p[0].Consts[0] = api.Const{Kind: api.Text, S: "-7"} },
		func(p api.Program) { p[0].Consts[1].S = "" },
		func(p api.Program) { p[0].Consts[1].S = "\n" },
		func(p api.Program) { p[0].Consts[1].S = "\\n" },
		func(p api.Program) { p[0].Consts[1].S = "\nint 0" },
		func(p api.Program) { p[0].Consts[0], p[0].Consts[1] = p[0].Consts[1], p[0].Consts[0] },
		func(p api.Program) { p[0].Consts = append(p[0].Consts, api.Const{Kind: api.Int}) },
		func(p api.Program) { p[0].Code[0].A = 1 },
		func(p api.Program) { p[0].Code[7].A = int(api.Unlike) },
		func(p api.Program) { p[0].Code[8].Op = api.OpYes },
		func(p api.Program) { p[0].Lines[0] = 1 },
		func(p api.Program) { p[0].Lines[47], p[0].Lines[48] = p[0].Lines[48], p[0].Lines[47] },
		func(p api.Program) { p[0].Handlers[0].From = 37 },
		func(p api.Program) { p[0].Handlers[0].To = 38 },
		func(p api.Program) { p[0].Handlers[0], p[0].Handlers[1] = p[0].Handlers[1], p[0].Handlers[0] },
		func(p api.Program) { p[0].Handlers = nil },
	} {
		p := everyWord()
		change(p)
		s, e := alikeText(t, p)
		if e != api.OK {
			t.Errorf("%d: %d", i, e)
		}
		if j, ok := texts[s]; ok {
			t.Errorf("%d and %d have one text: %q", i, j, s)
		}
		texts[s] = i
	}
}
