package model_test

import (
	"fmt"
	"reflect"
	"slices"
	"strings"
	"testing"

	"gearbox/api"
	"gearbox/gen"
	"gearbox/model"
	"gearbox/verify"
)

var words = strings.Fields("None Const Nil Yes No Load Store Cell CellLoad CellStore Up UpStore Pop Dup Bin Not Neg Len Show Jump Unless Loop List Map Get Put Fn Call Return Throw Print")

func word(op api.Op) string { return words[op] }

// fn: a function of instructions as words with their A; what it has beside them is set by what stands behind.
func fn(s string, more ...func(*api.Fn)) api.Fn {
	var f api.Fn
	for _, word := range strings.Fields(s) {
		op := slices.Index(words, word)
		if op >= 0 {
			f.Code = append(f.Code, api.Ins{Op: api.Op(op)})
			continue
		}
		if _, err := fmt.Sscan(word, &f.Code[len(f.Code)-1].A); err != nil {
			panic(word)
		}
	}
	f.Lines = make([]int, len(f.Code))
	for _, m := range more {
		m(&f)
	}
	return f
}

func locals(n int) func(*api.Fn) { return func(f *api.Fn) { f.Locals = n } }

// params: so many locals that are params.
func params(n int) func(*api.Fn) { return func(f *api.Fn) { f.Params, f.Locals = n, max(n, f.Locals) } }

func caps(l ...api.Cap) func(*api.Fn) { return func(f *api.Fn) { f.Caps = l } }

// consts: numbers and texts.
func consts(l ...any) func(*api.Fn) {
	return func(f *api.Fn) {
		for _, x := range l {
			switch x := x.(type) {
			case int:
				f.Consts = append(f.Consts, api.Const{Kind: api.Int, N: int64(x)})
			case string:
				f.Consts = append(f.Consts, api.Const{Kind: api.Text, S: x})
			}
		}
	}
}

// handlers: From, To, At, Deep, and so on.
func handlers(l ...int) func(*api.Fn) {
	return func(f *api.Fn) {
		for h := range slices.Chunk(l, 4) {
			f.Handlers = append(f.Handlers, api.Handler{From: h[0], To: h[1], At: h[2], Deep: h[3]})
		}
	}
}

// of: the code of a text.
func of(t *testing.T, s string) api.Program {
	t.Helper()
	p, line, e := gen.Of(s)
	if e != api.OK {
		t.Fatalf("%s: %d in line %d", s, e, line)
	}
	return p
}

// brief: a program, and not too much of it.
func brief(p api.Program) string {
	var l []string
	for _, f := range p {
		l = append(l, fmt.Sprintf("{params %d locals %d caps %v consts %.100s handlers %v", f.Params, f.Locals, f.Caps, fmt.Sprint(f.Consts), f.Handlers))
		for pc, i := range f.Code {
			l = append(l, fmt.Sprintf("%d:%s", pc, words[i.Op]))
			if i.A != 0 {
				l = append(l, fmt.Sprint(i.A))
			}
		}
		l = append(l, "}")
	}
	return fmt.Sprintf("%.2500s", strings.Join(l, " "))
}

func same(a, b api.Outcome) bool {
	return a.End == b.End && a.Value == b.Value && slices.Equal(a.Out, b.Out) && a.Fuel == b.Fuel && a.Words == b.Words
}

// run: of a program that may be.
func run(t *testing.T, p api.Program, room, fuel int) api.Outcome {
	t.Helper()
	o, e := model.Run(p, room, fuel)
	if e != api.OK {
		n, pc, _ := verify.Check(p)
		t.Fatalf("%s: %d, at %d, %d", brief(p), e, n, pc)
	}
	return o
}

func want(t *testing.T, p api.Program, room, fuel int, w api.Outcome) {
	t.Helper()
	if o := run(t, p, room, fuel); !same(o, w) {
		t.Errorf("%s, room %d, fuel %d:\n%.500v, want\n%.500v", brief(p), room, fuel, o, w)
	}
}

// plenty of room and fuel, where they are not what is asked for.
const plenty = 10000

// wantOut: a run that is done and prints this, one behind the other, a blank between.
func wantOut(t *testing.T, p api.Program, out string) {
	t.Helper()
	o := run(t, p, plenty, plenty)
	if got := strings.Join(o.Out, " "); o.End != api.EndDone || got != out || o.Value != "" || o.Words != 0 {
		t.Errorf("%s:\n%.500v, want %s", brief(p), o, out)
	}
}

// wantThrown: a run that prints this, and then throws.
func wantThrown(t *testing.T, p api.Program, value, out string) {
	t.Helper()
	o := run(t, p, plenty, plenty)
	if got := strings.Join(o.Out, " "); o.End != api.EndThrown || o.Value != value || got != out {
		t.Errorf("%s:\n%.500v, want %s thrown behind %s", brief(p), o, value, out)
	}
}

// copyOf: a program in other memory.
func copyOf(p api.Program) api.Program {
	q := slices.Clone(p)
	for i, f := range q {
		q[i].Caps, q[i].Consts, q[i].Code, q[i].Lines, q[i].Handlers = slices.Clone(f.Caps), slices.Clone(f.Consts), slices.Clone(f.Code), slices.Clone(f.Lines), slices.Clone(f.Handlers)
	}
	return q
}

// wantError: no outcome.
func wantError(t *testing.T, p api.Program, room, fuel int, w api.Errno) {
	t.Helper()
	if o, e := model.Run(p, room, fuel); e != w || !reflect.DeepEqual(o, api.Outcome{}) {
		t.Errorf("%s, room %d, fuel %d: %v, %d, want %d", brief(p), room, fuel, o, e, w)
	}
}

// mustOf: the code of a text that has some.
func mustOf(s string) api.Program {
	p, _, e := gen.Of(s)
	if e != api.OK {
		panic(s)
	}
	return p
}
