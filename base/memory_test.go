package base_test

import (
	"reflect"
	"runtime"
	"slices"
	"testing"
	"unsafe"

	"gearbox/api"
	"gearbox/samples"
)

// span: from where to where a list is in memory, its spare room too.
type span [2]uintptr

func spanOf[T any](l []T) span {
	var x T
	at := uintptr(unsafe.Pointer(unsafe.SliceData(l)))
	return span{at, at + uintptr(cap(l))*unsafe.Sizeof(x)}
}

// spans: where the lists of code are.
func spans(c api.RegFn) []span {
	l := []span{spanOf(c.Code), spanOf(c.Exits), spanOf(c.Entries)}
	for _, i := range c.Code {
		l = append(l, spanOf(i.Args))
	}
	for _, x := range c.Exits {
		l = append(l, spanOf(x.Slots))
	}
	for _, e := range c.Entries {
		l = append(l, spanOf(e.Slots))
	}
	return l
}

// spansOf: where those of a program are.
func spansOf(p api.Program) []span {
	l := []span{spanOf(p)}
	for _, f := range p {
		l = append(l, spanOf(f.Caps), spanOf(f.Consts), spanOf(f.Code), spanOf(f.Lines), spanOf(f.Handlers))
	}
	return l
}

// meetAny: do two of these share memory?
func meetAny(l []span) bool {
	l = slices.DeleteFunc(l, func(s span) bool { return s[0] == s[1] })
	slices.SortFunc(l, func(a, b span) int { return slices.Compare(a[:], b[:]) })
	for i := range l[min(1, len(l)):] {
		if l[i+1][0] < l[i][1] {
			return true
		}
	}
	return false
}

// R4: lists of answers share no memory with each other, nor with the program.
func TestApart(t *testing.T) {
	for seed := range 500 {
		p := samples.Code(seed)
		l := spansOf(p)
		var kept []api.RegFn // so that the memory of one isn't used for another one
		for fn := range p {
			kept = append(kept, code(t, p, fn), code(t, p, fn))
		}
		for _, c := range kept {
			l = append(l, spans(c)...)
		}
		if meetAny(l) {
			t.Fatal(seed, "two lists share memory")
		}
		runtime.KeepAlive(kept)
	}
}

// spare: a list with room behind it, in which something stands.
func spare[T any](l []T, x T) []T {
	return append(slices.Clone(l), x, x, x)[:len(l)]
}

// whole: a copy of a program, with what stands in the spare room of its lists.
func whole(p api.Program) api.Program {
	q := slices.Clone(p[:cap(p)])
	for i, f := range q {
		q[i].Caps, q[i].Consts, q[i].Code, q[i].Lines, q[i].Handlers = slices.Clone(f.Caps[:cap(f.Caps)]), slices.Clone(f.Consts[:cap(f.Consts)]), slices.Clone(f.Code[:cap(f.Code)]), slices.Clone(f.Lines[:cap(f.Lines)]), slices.Clone(f.Handlers[:cap(f.Handlers)])
	}
	return q
}

// R4, R5: what is handed in is not changed, its spare room neither; and the same is answered again.
func TestHandedIn(t *testing.T) {
	for seed := range 500 {
		p := spare(samples.Code(seed), api.Fn{Name: "spare"})
		for i, f := range p {
			p[i].Caps, p[i].Consts, p[i].Code, p[i].Lines, p[i].Handlers = spare(f.Caps, api.Cap{N: 77}), spare(f.Consts, api.Const{N: 77}), spare(f.Code, api.Ins{A: 77}), spare(f.Lines, 77), spare(f.Handlers, api.Handler{At: 77})
		}
		before := whole(p)
		for fn := range p {
			c := code(t, p, fn)
			again := code(t, p, fn)
			if !same(c, again) {
				t.Fatalf("%s%d: %s, and then %s", brief(p), fn, brief(c), brief(again))
			}
			spoil(c)
			if !same(again, newTeller(p, fn).tells()) {
				t.Fatalf("%s%d: it hangs on another answer: %s", brief(p), fn, brief(again))
			}
		}
		if !reflect.DeepEqual(whole(p), before) {
			t.Fatalf("%s is otherwise", brief(p))
		}
	}
}

// spoil: something else stands in all lists.
func spoil(c api.RegFn) {
	for _, i := range c.Code {
		for k := range i.Args[:cap(i.Args)] {
			i.Args[:cap(i.Args)][k] = 77
		}
	}
	for _, x := range c.Exits {
		clear(x.Slots[:cap(x.Slots)])
	}
	for _, e := range c.Entries {
		for k := range e.Slots[:cap(e.Slots)] {
			e.Slots[:cap(e.Slots)][k] = 77
		}
	}
	clear(c.Code[:cap(c.Code)])
	clear(c.Exits[:cap(c.Exits)])
	clear(c.Entries[:cap(c.Entries)])
}

// R4: empty and nil lists mean the same.
func TestEmpty(t *testing.T) {
	for seed := range 100 {
		p := samples.Code(seed)
		q := slices.Clone(p)
		for i := range q {
			f := &q[i]
			f.Caps, f.Consts, f.Code, f.Lines, f.Handlers = append([]api.Cap{}, f.Caps...), append([]api.Const{}, f.Consts...), append([]api.Ins{}, f.Code...), append([]int{}, f.Lines...), append([]api.Handler{}, f.Handlers...)
		}
		for fn := range p {
			want(t, q, fn, code(t, p, fn))
		}
	}
}
