package listing_test

import (
	"reflect"
	"slices"
	"strings"
	"testing"
	"unsafe"

	"gearbox/api"
	"gearbox/listing"
)

// span: from where to where something is in memory, its spare room too.
type span [2]uintptr

func spanOf[T any](l []T) span {
	var x T
	at := uintptr(unsafe.Pointer(unsafe.SliceData(l)))
	return span{at, at + uintptr(cap(l))*unsafe.Sizeof(x)}
}

func spanOfText(s string) span {
	at := uintptr(unsafe.Pointer(unsafe.StringData(s)))
	return span{at, at + uintptr(len(s))}
}

func (a span) meets(b span) bool { return a[0] < b[1] && b[0] < a[1] }

// lists: where those of a program are.
func lists(p api.Program) []span {
	l := []span{spanOf(p)}
	for _, f := range p {
		l = append(l, spanOf(f.Caps), spanOf(f.Consts), spanOf(f.Code), spanOf(f.Lines), spanOf(f.Handlers))
	}
	return l
}

// texts: where those of a program are.
func texts(p api.Program) []span {
	var l []span
	for _, f := range p {
		l = append(l, spanOfText(f.Name))
		for _, c := range f.Consts {
			l = append(l, spanOfText(c.S))
		}
	}
	return l
}

// meetAny: do two of these share memory?
func meetAny(l []span) bool {
	l = slices.DeleteFunc(l, func(s span) bool { return s[0] == s[1] })
	slices.SortFunc(l, func(a, b span) int { return slices.Compare(a[:], b[:]) })
	for i := range l[min(1, len(l)):] {
		if l[i].meets(l[i+1]) {
			return true
		}
	}
	return false
}

// roomy: a list with spare room in which something stands.
func roomy[T any](l []T, x T) []T {
	n := len(l)
	return append(slices.Clone(l), x, x, x)[:n]
}

func roomyProgram(p api.Program) api.Program {
	p = roomy(p, api.Fn{Name: "spare"})
	for i, f := range p {
		p[i].Caps, p[i].Consts = roomy(f.Caps, api.Cap{N: 7}), roomy(f.Consts, api.Const{S: "spare"})
		p[i].Code, p[i].Lines, p[i].Handlers = roomy(f.Code, api.Ins{A: 7}), roomy(f.Lines, 7), roomy(f.Handlers, api.Handler{At: 7})
	}
	return p
}

// whole: a copy of a program with its spare room as part of it.
func whole(p api.Program) api.Program {
	p = slices.Clone(p[:cap(p)])
	for i, f := range p {
		p[i].Caps, p[i].Consts, p[i].Code, p[i].Lines, p[i].Handlers = slices.Clone(f.Caps[:cap(f.Caps)]), slices.Clone(f.Consts[:cap(f.Consts)]), slices.Clone(f.Code[:cap(f.Code)]), slices.Clone(f.Lines[:cap(f.Lines)]), slices.Clone(f.Handlers[:cap(f.Handlers)])
	}
	return p
}

// R4: Text changes nothing of what it is handed, its spare room neither, and keeps none of it.
func TestTextMemory(t *testing.T) {
	for seed, p := range codes(800) {
		p = roomyProgram(p)
		if seed%4 == 0 {
			p[len(p)-1].Code[0].Op = api.OpPut
		}
		old := whole(p)
		first, e := listing.Text(p)
		if !reflect.DeepEqual(whole(p), old) {
			t.Fatalf("%s: changed", brief(old))
		}
		kept := strings.Clone(first)
		if slices.ContainsFunc(texts(p), spanOfText(first).meets) {
			t.Fatalf("Text(%s) shares memory", brief(p))
		}
		listing.Text(everyWord())
		if second, e2 := listing.Text(p); second != first || e2 != e {
			t.Fatalf("Text(%s) hangs on what was asked before", brief(p))
		}
		for i := range p {
			clear(p[i].Code[:cap(p[i].Code)])
			clear(p[i].Consts[:cap(p[i].Consts)])
		}
		if first != kept {
			t.Fatalf("%.1000q hangs on what was handed in", kept)
		}
	}
}

// R4: what Parse answers is new memory: its lists, with their spare room, and its texts.
func TestParseMemory(t *testing.T) {
	for _, p := range append(codes(800), everyWord()) {
		s, _ := listing.Text(p)
		first, _, e := listing.Parse(s)
		second, _, e2 := listing.Parse(s)
		if e != api.OK || e2 != api.OK || !same(first, second) {
			t.Fatalf("Parse(%.1000q): %d, %d", s, e, e2)
		}
		all := slices.Concat(lists(first), lists(second), []span{spanOfText(s)})
		if meetAny(all) {
			t.Fatalf("Parse(%.1000q): lists share memory", s)
		}
		for _, text := range texts(first) {
			if text.meets(spanOfText(s)) {
				t.Fatalf("Parse(%.1000q): a piece of the text is kept", s)
			}
		}
		for i, f := range first {
			clear(f.Code[:cap(f.Code)])
			clear(f.Lines[:cap(f.Lines)])
			clear(f.Caps[:cap(f.Caps)])
			clear(f.Consts[:cap(f.Consts)])
			clear(f.Handlers[:cap(f.Handlers)])
			first[i] = api.Fn{}
		}
		if third, _, _ := listing.Parse(s); !same(second, p) || !same(third, p) {
			t.Fatalf("Parse(%.1000q) hangs on what was done with an answer", s)
		}
	}
}
