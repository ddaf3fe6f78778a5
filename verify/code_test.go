package verify_test

import (
	"fmt"
	"slices"
	"strings"
	"testing"

	"gearbox/api"
	"gearbox/verify"
)

var words = strings.Fields("None Const Nil Yes No Load Store Cell CellLoad CellStore Up UpStore Pop Dup Bin Not Neg Len Show Jump Unless Loop List Map Get Put Fn Call Return Throw Print")

// fn: a function of instructions as words with their A; what it has beside them is set by what stands behind.
func fn(s string, more ...func(*api.Fn)) api.Fn {
	var f api.Fn
	for _, word := range strings.Fields(s) {
		op := slices.Index(words, word)
		if op >= 0 {
			f.Code = append(f.Code, api.Ins{Op: api.Op(op)})
			continue
		}
		if _, err := fmt.Sscan(word, &f.Code[len(f.Code)-1].A); err != nil {
			panic(word)
		}
	}
	f.Lines = make([]int, len(f.Code))
	for _, m := range more {
		m(&f)
	}
	return f
}

func locals(n int) func(*api.Fn) { return func(f *api.Fn) { f.Locals = n } }

func caps(l ...api.Cap) func(*api.Fn) { return func(f *api.Fn) { f.Caps = l } }

// handlers: From, To, At, Deep, and so on.
func handlers(l ...int) func(*api.Fn) {
	return func(f *api.Fn) {
		for h := range slices.Chunk(l, 4) {
			f.Handlers = append(f.Handlers, api.Handler{From: h[0], To: h[1], At: h[2], Deep: h[3]})
		}
	}
}

// many: something, so many times.
func many(s string, n int) string { return strings.Repeat(s+" ", n) }

// brief: a program, and not too much of it.
func brief(p api.Program) string {
	var l []string
	for _, f := range p {
		l = append(l, fmt.Sprintf("{%.20q params %d locals %d caps %v consts %.100s handlers %v", f.Name, f.Params, f.Locals, f.Caps, fmt.Sprint(f.Consts), f.Handlers))
		for _, i := range f.Code {
			if int(i.Op) < len(words) {
				l = append(l, words[i.Op])
			} else {
				l = append(l, fmt.Sprintf("Op%d", i.Op))
			}
			if i.A != 0 {
				l = append(l, fmt.Sprint(i.A))
			}
		}
		l = append(l, "}")
	}
	return fmt.Sprintf("%.1500s", strings.Join(l, " "))
}

// wantRight: code that may be, with the depths of its main function, if they are told.
func wantRight(t *testing.T, p api.Program, depths ...int) {
	t.Helper()
	if n, pc, e := verify.Check(p); n != 0 || pc != 0 || e != api.OK {
		t.Errorf("Check(%s) = %d, %d, %d", brief(p), n, pc, e)
		return
	}
	if len(depths) > 0 {
		wantDepths(t, p, 0, depths...)
	}
}

func wantDepths(t *testing.T, p api.Program, n int, want ...int) {
	t.Helper()
	if l, e := verify.Depths(p, n); e != api.OK || !slices.Equal(l, want) {
		t.Errorf("Depths(%s, %d) = %v, %d, not %v", brief(p), n, l, e, want)
	}
}

// wantFault: code that may not be.
func wantFault(t *testing.T, p api.Program, n, pc int) {
	t.Helper()
	if gotN, gotPc, e := verify.Check(p); gotN != n || gotPc != pc || e != api.ErrForm {
		t.Errorf("Check(%s) = %d, %d, %d, not %d, %d", brief(p), gotN, gotPc, e, n, pc)
	}
	for _, any := range []int{0, n, len(p), -1} {
		if l, e := verify.Depths(p, any); l != nil || e != api.ErrForm {
			t.Errorf("Depths(%s, %d) = %v, %d", brief(p), any, l, e)
		}
	}
}

// alike: does the program answer what the model does?
func alike(t *testing.T, p api.Program) api.Errno {
	t.Helper()
	n, pc, e := verify.Check(p)
	if wantN, wantPc, want := modelCheck(p); n != wantN || pc != wantPc || e != want {
		t.Fatalf("Check(%s) = %d, %d, %d, not %d, %d, %d", brief(p), n, pc, e, wantN, wantPc, want)
	}
	for i := range p {
		l, e2 := verify.Depths(p, i)
		if e2 != e {
			t.Fatalf("Depths(%s, %d): %d", brief(p), i, e2)
		}
		if e != api.OK {
			if l != nil {
				t.Fatalf("Depths(%s, %d) = %v", brief(p), i, l)
			}
			continue
		}
		if want, _ := modelDepths(p, p[i]); !slices.Equal(l, want) {
			t.Fatalf("Depths(%s, %d) = %v, not %v", brief(p), i, l, want)
		}
	}
	return e
}
