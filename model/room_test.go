package model_test

import (
	"strings"
	"testing"

	"gearbox/api"
)

// asking: instructions, the last of which asks for words; how many words the roots have ahead of it, and how many it asks for. The local 0 is a cell (3 words) of 7, the local 1 is nil.
var asking = []struct {
	code        string
	roots, asks int
}{
	{"Const 4", 3, 2},
	{"Const 1", 3, 3},
	{"Const 5", 3, 3},
	{"Const 6", 3, 4},
	{"Const 1 Const 6", 6, 4},
	{"Cell 1", 3, 3},
	{"List", 3, 3},
	{"Nil Const 0 List 2", 3, 8},
	{"Nil Const 1 List 2", 6, 8},
	{"Map", 3, 3},
	{"Nil Nil Map 1", 3, 8},
	{"Nil Nil Nil Nil Map 2", 3, 12},
	{"Fn 1", 3, 2},
	{"Fn 2", 3, 6},
	{"Fn 1 Fn 2", 5, 6},
	{"Const 0 Show", 3, 3},
	{"Nil Nil List 2 Show", 11, 4},
	{"Const 1 Const 4 Bin 1", 8, 3},
	{"Const 5 Const 1 Bin 1", 9, 4},
	{"Const 1 Const 0 Const 0 Bin 2 Get", 6, 3},
	{"List Const 0 Const 0 Bin 2 Nil Put", 6, 9},
	{"Nil List 1 Const 0 Const 0 Bin 4 Const 1 Put", 12, 9},
	{"Map Nil Nil Put", 6, 17},
	{"Nil Nil Map 1 Const 0 Nil Put", 11, 17},
	{"Const 4 Neg", 5, 3},
	{"Nil Not", 3, 3},
	{"Nil Neg", 3, 3},
	{"Nil Len", 3, 3},
	{"Nil Nil Bin 1", 3, 3},
	{"Const 0 Const 0 Const 0 Bin 2 Bin 4", 3, 3},
	{"Const 7 Dup Bin 1", 3 + 514, 3},
	{"Const 7 List 1 Show", 3 + 514 + 6, 3},
	{"Const 7 List 1 Print Nil", 3 + 514 + 6, 3},
	{"Load 0 Show", 3, 3},
	{"Load 0 Print Nil", 3, 3},
	{"Load 0 Throw", 3, 3},
	{"Load 0 List 1", 3, 3},
	{"Load 0 Nil Map 1", 3, 3},
	{"Nil Nil Get", 3, 3},
	{"List Const 0 Get", 6, 3},
	{"Const 1 Const 0 Get", 6, 3},
	{"Nil Nil Nil Put Nil", 3, 3},
	{"List Const 0 Nil Put Nil", 6, 3},
	{"Nil Unless 99", 3, 3},
	{"CellLoad 1", 3, 3},
	{"Nil CellStore 1 Nil", 3, 3},
	{"Load 0 CellStore 0 Nil", 3, 3},
	{"Load 0 Store 1 Cell 1 Nil", 3, 3},
	{"Yes CellStore 0 Fn 3 Nil", 3, 3},
	{"Nil Call", 3, 3},
	{"Const 1 Fn 1 Nil Call 1", 8, 3},
}

// asks: a program of these instructions, that prints yes behind them, and is done then.
func asks(code string) api.Program {
	first := "Const 0 Store 0 Cell 0 "
	f := fn(first+code, locals(2), consts(7, "ab", 3, "b", "", "12345678", "123456789", strings.Repeat("x", api.MaxText)))
	at := len(f.Code) // of what is done behind
	for i := range f.Code {
		if f.Code[i].A == 99 {
			f.Code[i].A = at
		}
	}
	f.Code = append(f.Code, fn("Yes Print Nil Return Fn 2 Fn 3 Return").Code...)
	f.Lines = make([]int, len(f.Code))
	closed := fn("Nil Return", caps(api.Cap{N: 0}, api.Cap{N: 0}))
	bare := fn("Nil Return", caps(api.Cap{N: 1}))
	return api.Program{f, fn("Nil Return"), closed, bare}
}

// P12.1, P0.3: at each instruction that asks for words: room that is just enough, and one word too little.
func TestRoom(t *testing.T) {
	for _, c := range asking {
		p := asks(c.code)
		need := c.roots + c.asks
		if o := run(t, p, need, 9); o.End == api.EndRoom {
			t.Errorf("%s: %v with %d", c.code, o, need)
		}
		o := run(t, p, need-1, 9)
		if o.End != api.EndRoom || o.Words != c.roots || len(o.Out) != 0 || o.Value != "" {
			t.Errorf("%s: %v with %d, want %d words", c.code, o, need-1, c.roots)
		}
	}
}

// P0.3: what can't be reached any more takes no room.
func TestGoneTakesNoRoom(t *testing.T) {
	enough := func(room int, text string, out string) {
		t.Helper()
		p := of(t, text)
		if o := run(t, p, room, plenty); o.End != api.EndDone || strings.Join(o.Out, " ") != out {
			t.Errorf("%s with %d: %v", text, room, o)
		}
		if o := run(t, p, room-1, plenty); o.End != api.EndRoom {
			t.Errorf("%s with %d: %v", text, room-1, o)
		}
	}
	enough(3, `"a"; "b"; "c";`, "")
	enough(9, `var i = 0; while i < 500 { i = i + 1; "a" + "b"; } print i;`, "500")
	enough(6, `var a = "x"; var i = 0; while i < 500 { a = "y"; i = i + 1; } print a;`, "y")
	enough(16, `var a = []; a = [a]; a = [a]; a[0] = a; a = nil; a = [1, 2, 3, 4, 5, 6]; print #a;`, "6") // what leads to itself
	enough(3+9, `var l = []; l[0] = 1; l[1] = 1; l[2] = 1; l[3] = 1; print l;`, "[1, 1, 1, 1]")
	enough(3+9+17, `var l = []; l[0] = 1; l[1] = 1; l[2] = 1; l[3] = 1; l[4] = 1; print l;`, "[1, 1, 1, 1, 1]")
	enough(8+10, `var l = [0]; l = [1, 2]; l = [1, 2, 3]; print #l;`, "3")
	enough(2+3, `var f = fn() { return 1; }; f = nil; fn() { return "a"; }();`, "") // a frame's Func is a root
	enough(2+3+3, `fn(x) { "b"; }("a");`, "")                                       // what a call took is the callee's alone
	enough(2+3, `fn(x) { x = nil; "b"; }("a");`, "")
	enough(3, `var i = 0; while i < 100 { try { 1 / 0; } catch e { e = nil; } i = i + 1; }`, "")
	enough(6, `var i = 0; while i < 100 { try { 1 / 0; } catch e { } i = i + 1; }`, "") // the local of e
}

// P12.1: Words, at each of the four ends.
func TestWordsAtTheEnd(t *testing.T) {
	want(t, of(t, `var a = [1, 2]; var b = "a";`), 100, 5, api.Outcome{End: api.EndDone, Fuel: 5})
	want(t, of(t, `var a = [1, 2]; throw "a";`), 100, 5, api.Outcome{End: api.EndThrown, Value: "a", Fuel: 5, Words: 3})
	want(t, of(t, `var a = [1, "b"]; throw [a, a];`), 100, 5, api.Outcome{End: api.EndThrown, Value: "[[1, b], [1, b]]", Fuel: 5, Words: 8 + 8 + 3})
	want(t, of(t, `var a = [1, 2]; throw 5;`), 100, 5, api.Outcome{End: api.EndThrown, Value: "5", Fuel: 5})
	want(t, of(t, `var a = [1, 2]; a[nil];`), 100, 5, api.Outcome{End: api.EndThrown, Value: "kind", Fuel: 5, Words: 3})
	want(t, of(t, `var a = [1, 2]; var b = a; "gone"; while yes { }`), 100, 5, api.Outcome{End: api.EndFuel, Words: 8})
	// ahead of the call: what is called, and its values; the frames ahead, without what their calls took
	want(t, of(t, `var f = fn(x, y) { x = nil; nil("b", "c"); }; [f("a", [1]), 1];`), 100, 1, api.Outcome{End: api.EndFuel, Words: 2 + 6 + 3 + 3})
	want(t, of(t, `var a = "x"; var b = [1, 2, 3];`), 12, 5, api.Outcome{End: api.EndRoom, Fuel: 5, Words: 3})
	want(t, of(t, `var a = "x"; var b = [1, 2, 3];`), 13, 5, api.Outcome{End: api.EndDone, Fuel: 5})
	want(t, of(t, `print 1; var f = fn() { print 2; return ["a", "b"]; }; f(); print 3;`), 2+6+8-1, 5, api.Outcome{End: api.EndRoom, Out: []string{"1", "2"}, Fuel: 4, Words: 8})
}

// P12.2: Words are at most the room, whatever the end is.
func TestWordsAtMostRoom(t *testing.T) {
	text := `var l = []; var m = {}; var i = 0; while yes { l[i] = $i; m[i] = l; if i % 7 == 0 { l = []; i = 0; } i = i + 1; fn() { return l; }(); }`
	for room := 1; room < 400; room++ {
		if o := run(t, of(t, text), room, 300); o.Words > room || o.End == api.EndRoom && o.Fuel == 0 {
			t.Fatalf("room %d: %v", room, o)
		}
	}
}
