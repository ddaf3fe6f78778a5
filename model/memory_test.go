package model_test

import (
	"slices"
	"strings"
	"testing"
	"unsafe"

	"gearbox/api"
	"gearbox/trials"
)

// span: from where to where a text is in memory.
type span [2]uintptr

func spanOf(s string) span {
	at := uintptr(unsafe.Pointer(unsafe.StringData(s)))
	return span{at, at + uintptr(len(s))}
}

// R4: what is printed and thrown is in memory of its own: of no constant, and of no other text that was told.
func TestTextsApart(t *testing.T) {
	text := strings.Repeat("some text ", 3)
	f := trials.Fn("Const Dup Print Dup Print Dup Store Print Load Print Const 1 Print Const 1 Print Load Throw", trials.Consts(text, "x"), trials.Locals(1))
	p := api.Program{f}
	spans := []span{spanOf(f.Consts[0].S), spanOf(f.Consts[1].S)}
	for range 2 {
		o := run(t, p, 100, 0)
		if o.Value != text || len(o.Out) != 6 {
			t.Fatal(o)
		}
		for _, s := range append(o.Out, o.Value) {
			spans = append(spans, spanOf(s))
		}
	}
	slices.SortFunc(spans, func(a, b span) int { return slices.Compare(a[:], b[:]) })
	for i := range spans[1:] {
		if spans[i+1][0] < spans[i][1] {
			t.Fatal("two texts share memory")
		}
	}
}
