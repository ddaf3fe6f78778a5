package model_test

import (
	"fmt"
	"math"
	"slices"
	"strings"
	"testing"

	"gearbox/api"
)

// zoo: a value of every kind, as code that pushes it where the local 0 is a cell; and another one of that kind.
var zoo = []struct{ kind, code, other, text string }{
	{"nil", "Nil", "Nil", "nil"},
	{"yes", "Yes", "Yes", "yes"},
	{"no", "No", "No", "no"},
	{"int", "Const 0", "Const 2", "7"},
	{"text", "Const 1", "Const 3", "ab"},
	{"list", "Const 0 List 1", "Const 0 List 1", "[7]"},
	{"map", "Const 0 Const 1 Map 1", "Const 0 Const 1 Map 1", "{7: ab}"},
	{"func", "Fn 1", "Fn 1", "fn 1"},
	{"cell", "Load 0", "Load 0", ""},
}

// tried: a program that pushes what the code pushes, or what it throws, and does then what stands behind.
func tried(code, behind string, more ...func(*api.Fn)) api.Program {
	const first = "Const 0 Store 0 Cell 0 "
	body := fn(code)
	at := 3 + len(body.Code)
	jump := at + 1
	f := fn(first+"Nil Pop "+behind, append(more, consts(7, "ab", 3, "b"), func(f *api.Fn) { f.Locals = max(f.Locals, 1) })...)
	guarded := append(slices.Clone(body.Code), api.Ins{Op: api.OpJump, A: jump})
	f.Code = slices.Replace(f.Code, 3, 5, guarded...)
	f.Lines = make([]int, len(f.Code))
	if len(body.Code) > 0 {
		f.Handlers = append(f.Handlers, api.Handler{From: 3, To: at, At: jump})
	}
	return api.Program{f, fn("Nil Return")}
}

// wantPushed: what code pushes, or throws, shows as this.
func wantPushed(t *testing.T, code, shows string) {
	t.Helper()
	wantOut(t, tried(code, "Print Nil Return"), shows)
}

// P12.1: operations on one value, of every kind.
func TestOne(t *testing.T) {
	comes := map[string]string{
		"Not yes": "no", "Not no": "yes", "Neg int": "-7", "Len text": "2", "Len list": "1", "Len map": "1",
	}
	for _, z := range zoo {
		for _, op := range []string{"Not", "Neg", "Len"} {
			w, ok := comes[op+" "+z.kind]
			if !ok {
				w = "kind"
			}
			wantPushed(t, z.code+" "+op, w)
		}
		if z.kind == "cell" {
			wantPushed(t, z.code+" Show", "kind")
			continue
		}
		wantPushed(t, z.code+" Show Const 3 Bin 1", z.text+"b") // it is a Text
	}
}

// comesOf: what a Bin of two values of these kinds shows as; the Ints being 7 and 3, the Texts ab and b.
func comesOf(op api.Bin, a, b string) string {
	switch {
	case a == "cell" || b == "cell":
		return "kind"
	case op == api.Same || op == api.Unlike:
		alike := a == b && slices.Contains([]string{"nil", "yes", "no"}, a)
		return map[bool]string{true: "yes", false: "no"}[alike == (op == api.Same)]
	case a == "int" && b == "int":
		return strings.Fields("10 4 21 2 1 no no")[op-1]
	case a == "text" && b == "text":
		return strings.Fields("abb kind kind kind kind yes yes")[op-1]
	}
	return "kind"
}

// P12.1: operations on two values, of every two kinds.
func TestBin(t *testing.T) {
	bins := strings.Fields("None 1 2 3 4 5 6 7 8 9")
	for _, a := range zoo {
		for _, b := range zoo {
			for op := api.Add; op <= api.Unlike; op++ {
				wantPushed(t, a.code+" "+b.other+" Bin "+bins[op], comesOf(op, a.kind, b.kind))
			}
		}
	}
	for _, z := range zoo[:8] { // a value is the same as itself
		wantPushed(t, z.code+" Dup Bin 8", "yes")
		wantPushed(t, z.code+" Dup Bin 9", "no")
	}
	wantPushed(t, "Const 0 Const 0 Const 0 Bin 2 Bin 4", "zero")
	wantPushed(t, "Const 0 Const 0 Const 0 Bin 2 Bin 5", "zero")
	wantPushed(t, "Const 2 Const 0 Bin 2", "-4") // in their order
}

// P12.1: lists and maps of values of every kind; in their order.
func TestRows(t *testing.T) {
	for _, z := range zoo {
		list, key, value := "["+z.text+", 3]", "{"+z.text+": 3}", "{3: "+z.text+"}"
		if z.kind == "cell" {
			list, key, value = "kind", "kind", "kind"
		}
		wantPushed(t, z.code+" Const 2 List 2", list)
		wantPushed(t, z.code+" Const 2 Map 1", key)
		wantPushed(t, "Const 2 "+z.code+" Map 1", value)
	}
	wantPushed(t, "List", "[]")
	wantPushed(t, "Map", "{}")
	wantPushed(t, "Const 0 Const 1 Const 2 List 3", "[7, ab, 3]")
	wantPushed(t, "Const 0 Const 1 Const 2 Const 3 Const 0 Nil Map 3", "{7: nil, 3: b}")
	wantPushed(t, "Nil Const 0 List 1 Bin 9", "yes") // what is beneath stays
}

// P12.1: Get of values of every kind at those of every kind.
func TestGet(t *testing.T) {
	for _, v := range zoo {
		for _, k := range zoo {
			w := "kind"
			switch {
			case k.kind == "cell":
			case v.kind == "map" && k.kind == "int":
				w = "ab"
			case v.kind == "map":
				w = "nil"
			case k.kind == "int" && (v.kind == "list" || v.kind == "text"):
				w = "bounds"
			}
			wantPushed(t, v.code+" "+k.code+" Get", w)
		}
	}
	const zero, one = " Const 0 Dup Bin 2 Get", " Const 0 Dup Bin 4 Get"
	wantPushed(t, "Const 1"+zero+" Const 3 Bin 1", "ab") // a Text
	wantPushed(t, "Const 1"+one, "b")
	wantPushed(t, "Const 2 Const 1 List 2"+zero, "3")
	wantPushed(t, "Const 2 Const 1 List 2"+one, "ab")
	wantPushed(t, "Const 2 Const 1 List 2 Const 0 Neg Get", "bounds")
}

// P12.1: Put of values of every kind at those of every kind, of those of every kind.
func TestPut(t *testing.T) {
	for _, v := range zoo {
		for _, k := range zoo {
			for _, x := range zoo {
				w := "kind"
				switch {
				case k.kind == "cell" || x.kind == "cell":
				case v.kind == "map" && k.kind == "int":
					w = "{7: " + x.text + "}"
				case v.kind == "map":
					w = "{7: ab, " + k.text + ": " + x.text + "}"
				case v.kind == "list" && k.kind == "int":
					w = "bounds"
				}
				wantPushed(t, v.code+" Dup "+k.code+" "+x.code+" Put", w)
			}
		}
	}
	const zero, one = " Dup Const 0 Dup Bin 2", " Dup Const 0 Dup Bin 4"
	wantPushed(t, "Const 2 List 1"+zero+" Nil Put", "[nil]")
	wantPushed(t, "Const 2 List 1"+one+" Nil Put", "[3, nil]")
	wantPushed(t, "Const 2 List 1"+one+" Nil Put Dup Len Bin 9", "yes") // nothing is pushed
	wantPushed(t, "List"+one+" Nil Put", "bounds")
	wantPushed(t, "List"+zero+" Nil Put", "[nil]")
}

// P12.1: what is printed, of every kind; what is too long, and cells, are thrown.
func TestPrint(t *testing.T) {
	for _, z := range zoo {
		if z.kind == "cell" {
			wantOut(t, tried(z.code+" Print Yes", "Print Nil Return"), "kind")
			continue
		}
		wantOut(t, tried(z.code+" Print Yes", "Print Nil Return"), z.text+" yes")
	}
	text := strings.Repeat("x", api.MaxText)
	f := fn("Const List 1 Print Nil Jump 5 Print Const Print Nil Return", consts(text), handlers(0, 4, 5, 0))
	wantOut(t, api.Program{f}, "great "+text)
	f = fn("Const List 1 Show Jump 4 Print Const Show Print Nil Return", consts(text), handlers(0, 3, 4, 0))
	wantOut(t, api.Program{f}, "great "+text)
}

// P12.1: OpUnless of every kind.
func TestUnless(t *testing.T) {
	for _, z := range zoo {
		w := "kind"
		switch z.kind {
		case "yes":
			w = "7"
		case "no":
			w = "3"
		}
		at := 3 + len(fn(z.code).Code) // where it stands
		wantPushed(t, fmt.Sprintf("%s Unless %d Const 0 Jump %d Const 2", z.code, at+3, at+4), w)
	}
}

// P12.1: constants and values; those of no kind that asks for words ask for none.
func TestPushed(t *testing.T) {
	f := fn("Const Print Const 1 Print Const 2 Print Nil Print Yes Print No Print Nil Return", consts(math.MinInt64, "a b", math.MaxInt64))
	wantOut(t, api.Program{f}, "-9223372036854775808 a b 9223372036854775807 nil yes no")
	f = fn("Const Store Const Load Bin 8 Print Load Load Bin 8 Print Const Dup Bin 8 Print Nil Return", consts("a"), locals(1))
	wantOut(t, api.Program{f}, "yes yes yes")
	f = fn("Const List 1 Const List 1 Bin 8 Print Nil Return", consts("a"))
	wantOut(t, api.Program{f}, "no")
}

// P12.1: locals hold values of every kind, cells too; a value that is taken is there no more.
func TestLocals(t *testing.T) {
	f := fn("Load Print Load 1 Print Yes Store No Store 1 Load 1 Print Load Print Load Store 1 Load 1 Print Nil Return", locals(2))
	wantOut(t, api.Program{f}, "nil nil no yes yes")
	for _, z := range zoo[:8] {
		wantOut(t, tried(z.code+" Store 1 Load 1", "Print Nil Return", locals(2)), z.text)
		wantOut(t, tried(z.code+" Dup Pop", "Print Nil Return"), z.text)
		wantOut(t, tried("Const 2 "+z.code+" Pop", "Print Nil Return"), "3")
	}
	wantOut(t, tried("Load 0 Store 1 CellLoad 1", "Print Nil Return", locals(2)), "7")
	wantOut(t, tried("Load 0 Dup Store 1 Store 2 Nil CellStore 2 CellLoad 1", "Print Nil Return", locals(3)), "nil")
	wantOut(t, tried("Load 0 Pop Yes", "Print Nil Return"), "yes")
}

// P12.1: jumps and loops go where they say.
func TestWays(t *testing.T) {
	f := fn("Yes Unless 5 Const Print Jump 7 Const 1 Print Nil Return", consts(1, 2))
	wantOut(t, api.Program{f}, "1")
	f = fn("Const Store Load Const 1 Bin 6 Unless 13 Load Print Load Const 2 Bin 1 Store Loop 2 Nil Return", consts(0, 3, 1), locals(1))
	p := api.Program{f}
	wantOut(t, p, "0 1 2")
	want(t, p, plenty, 3, api.Outcome{End: api.EndDone, Out: []string{"0", "1", "2"}})
	want(t, p, plenty, 2, api.Outcome{End: api.EndFuel, Out: []string{"0", "1", "2"}})
	want(t, p, plenty, 0, api.Outcome{End: api.EndFuel, Out: []string{"0"}})
	want(t, api.Program{fn("Loop")}, 1, 7, api.Outcome{End: api.EndFuel})
}
