package graph_test

import (
	"strconv"
	"strings"
	"testing"

	"gearbox/api"
	"gearbox/trials"
)

// each: a program whose main function prints, from place 5 on, that a frame fell, and whose function 1 comes to 7. At place 2 it is made over the local 0, at 3 called.
func each() api.Program {
	return api.Program{
		trials.Fn("Yes Unless 5 Fn 1 Call Pop Const Print Nil Return Print Nil Return", trials.Locals(1), trials.Consts("fell", "ab", 0), trials.Handlers(3, 4, 9, 0)),
		trials.Fn("Const Return", trials.Consts(7), trials.Caps(api.Cap{})),
	}
}

// made: nodes that come to a value of each kind; and what they are, as texts.
const made = "Value; Value Bool n1; Value Int n5; Const n1 s0; List 2 s0; Map 2 2 s0; Cell 2 s0; Fn 6 n1 s0; Value Bool; Const n2 s0; "

var kinds = strings.Split("nil|yes|5|ab|[5]|{5: 5}|cell|fn 1|no|0", "|")

const (
	aNil = iota
	aYes
	aFive
	aText
	aList
	aMap
	aCell
	aFunc
	aNo
	aZero
)

// done: what is printed behind values of each kind, by a graph of each's main function.
func done(t *testing.T, behind string) string {
	t.Helper()
	g := trials.Graph(1, made+behind, "5: 0; 3: 6 7; 3: 6 3")
	o := alike(t, each(), []api.Graph{g}, plenty, plenty, nil)
	if o.End != api.EndDone {
		t.Errorf("%s: %v", behind, o)
	}
	return strings.Join(o.Out, " ")
}

// with: words in which signs stand for nodes.
func with(s string, nodes ...int) string {
	for k, sign := range []string{"%", "&", "$"}[:len(nodes)] {
		s = strings.ReplaceAll(s, sign, strconv.Itoa(nodes[k]))
	}
	return s
}

const fell = "fell"

// P16.2: nodes of one value, of each kind.
func TestOfOne(t *testing.T) {
	const print = "; Print 10 s0; Return 0"
	for code, want := range map[string]string{
		"Cell % s0; CellLoad 10 s0; Print 11 s0; Return 0": "nil|yes|5|ab|[5]|{5: 5}|fell|fn 1|no|0",
		"CellLoad % s0" + print:                            "fell|fell|fell|fell|fell|fell|5|fell|fell|fell",
		"Not % s0" + print:                                 "fell|no|fell|fell|fell|fell|fell|fell|yes|fell",
		"Neg % s0" + print:                                 "fell|fell|-5|fell|fell|fell|fell|fell|fell|0",
		"Len % s0" + print:                                 "fell|fell|fell|2|1|1|fell|fell|fell|fell",
		"Show % s0; Len 10 s0; Print 11 s0; Return 0":      "3|3|1|2|3|6|fell|4|2|1",
		"Guard % Nil s0" + print:                           "nil|fell|fell|fell|fell|fell|fell|fell|fell|fell",
		"Guard % Bool s0" + print:                          "fell|yes|fell|fell|fell|fell|fell|fell|no|fell",
		"Guard % Int s0" + print:                           "fell|fell|5|fell|fell|fell|fell|fell|fell|0",
		"Guard % Text s0" + print:                          "fell|fell|fell|ab|fell|fell|fell|fell|fell|fell",
		"Guard % List s0" + print:                          "fell|fell|fell|fell|[5]|fell|fell|fell|fell|fell",
		"Guard % Map s0" + print:                           "fell|fell|fell|fell|fell|{5: 5}|fell|fell|fell|fell",
		"Guard % Func s0" + print:                          "fell|fell|fell|fell|fell|fell|fell|fn 1|fell|fell",
		"List 2 % s0" + print:                              "[5, nil]|[5, yes]|[5, 5]|[5, ab]|[5, [5]]|[5, {5: 5}]|fell|[5, fn 1]|[5, no]|[5, 0]",
		"Map % 2 s0" + print:                               "{nil: 5}|{yes: 5}|{5: 5}|{ab: 5}|{[5]: 5}|{{5: 5}: 5}|fell|{fn 1: 5}|{no: 5}|{0: 5}",
		"Fn % n1 s0" + print:                               "fell|fell|fell|fell|fell|fell|fn 1|fell|fell|fell",
		"Print % s0; Return 0":                             "nil|yes|5|ab|[5]|{5: 5}|fell|fn 1|no|0",
		"Throw % s0":                                       "fell|fell|fell|fell|fell|fell|fell|fell|fell|fell",
		"Return %":                                         "|||||||||",
		"Unless % >1 >2 s0 | Print 1 s0; Return 0 | Print 8 s0; Return 0": "fell|yes|fell|fell|fell|fell|fell|fell|no|fell",
		// it falls to the call of its state: the one of the state 1 calls the Func, that of the state 2 a Text, which is caught
		"Call % s1" + print: "fell|fell|fell|fell|fell|fell|fell|7|fell|fell",
		"Call % s2" + print: "kind|kind|kind|kind|kind|kind|kind|7|kind|kind",
	} {
		for n, want := range strings.Split(want, "|") {
			if got := done(t, with(code, n)); got != want {
				t.Errorf("%s of %s: %s, want %s", code, kinds[n], got, want)
			}
		}
	}
}

// pairs: what is printed of two values, told by both; all others fall.
func pairs(t *testing.T, code string, want map[[2]int]string) {
	t.Helper()
	for a := range kinds {
		for b := range kinds {
			w, is := want[[2]int{a, b}]
			if !is {
				w = fell
			}
			if got := done(t, with(code, a, b)); got != w {
				t.Errorf("%s of %s and %s: %s, want %s", code, kinds[a], kinds[b], got, w)
			}
		}
	}
}

// P16.2: signs, of values of each kind; of whole numbers alone.
func TestSigns(t *testing.T) {
	const f, z = aFive, aZero
	for sign, of := range map[string]struct{ ff, fz, zf, zz, texts string }{
		"Add":  {"10", "5", "5", "0", "abab"},
		"Sub":  {"0", "5", "-5", "0", fell},
		"Mul":  {"25", "0", "0", "0", fell},
		"Div":  {"1", fell, "0", fell, fell},
		"Mod":  {"0", fell, "0", fell, fell},
		"Less": {"no", "no", "yes", "no", "no"},
		"Most": {"yes", "no", "yes", "yes", "yes"},
	} {
		want := map[[2]int]string{{f, f}: of.ff, {f, z}: of.fz, {z, f}: of.zf, {z, z}: of.zz}
		pairs(t, "IntBin % & "+sign+" s0; Print 10 s0; Return 0", want)
		want[[2]int{aText, aText}] = of.texts
		pairs(t, "Bin % & "+sign+" s0; Print 10 s0; Return 0", want)
	}
	same, unlike := map[[2]int]string{}, map[[2]int]string{}
	for a := range kinds {
		for b := range kinds {
			if a != aCell && b != aCell {
				same[[2]int{a, b}], unlike[[2]int{a, b}] = "no", "yes"
			}
		}
		if a != aCell {
			same[[2]int{a, a}], unlike[[2]int{a, a}] = "yes", "no"
		}
	}
	pairs(t, "Bin % & Same s0; Print 10 s0; Return 0", same)
	pairs(t, "Bin % & Unlike s0; Print 10 s0; Return 0", unlike)
}

// P16.2: what is put and got, and what cells hold; to put, to store and to print comes to nil, to guard to what is guarded.
func TestHeld(t *testing.T) {
	stored, get, put := map[[2]int]string{}, map[[2]int]string{{aList, aZero}: "5", {aText, aZero}: "a"}, map[[2]int]string{{aList, aZero}: "nil [0]"}
	for b, text := range kinds {
		if b == aCell {
			continue
		}
		stored[[2]int{aCell, b}] = "nil " + text
		get[[2]int{aMap, b}], put[[2]int{aMap, b}] = "nil", "nil {5: 5, "+text+": 0}"
	}
	get[[2]int{aMap, aFive}], put[[2]int{aMap, aFive}] = "5", "nil {5: 0}"
	delete(put, [2]int{aMap, aMap}) // it holds itself then
	pairs(t, "CellStore % & s0; CellLoad % s0; Print 10 s0; Print 11 s0; Return 0", stored)
	pairs(t, "Get % & s0; Print 10 s0; Return 0", get)
	for pair, want := range put {
		if got := done(t, with("Put % & 9 s0; Print 10 s0; Print % s0; Return 0", pair[0], pair[1])); got != want {
			t.Errorf("Put %v: %s, want %s", pair, got, want)
		}
	}
	for n, text := range kinds {
		want := "nil [" + text + "]"
		switch n {
		case aList:
			continue
		case aCell:
			want = fell
		}
		if got := done(t, with("Put 4 9 % s0; Print 10 s0; Print 4 s0; Return 0", n)); got != want {
			t.Errorf("%s is put: %s", text, got)
		}
	}
	for code, want := range map[string]string{
		"Value Int n1; Put 4 10 3 s0; Print 4 s0; Return 0":                                   "[5, ab]",
		"Put 4 2 3 s0; Print 4 s0; Return 0":                                                  fell,
		"Put 3 9 3 s0; Return 0":                                                              fell,
		"Print 3 s0; Print 10 s0; Return 0":                                                   "ab nil",
		"Guard 4 List s0; Put 10 9 3 s0; Print 4 s0; Bin 10 4 Same s0; Print 13 s0; Return 0": "[ab] yes",
		"Fn 6 n1 s0; Bin 7 10 Same s0; Print 11 s0; Return 0":                                 "no",
		"List s0; Print 10 s0; Map s0; Print 12 s0; List 1 2 3 1 s0; Print 14 s0; Return 0":   "[] {} [yes, 5, ab, yes]",
		"Map 1 2 3 4 1 0 s0; Print 10 s0; Return 0":                                           "{yes: nil, ab: [5]}",
		"Value Int n-9223372036854775808; Print 10 s0; Neg 10 s0; Print 12 s0; Return 0":      "-9223372036854775808 -9223372036854775808",
		"Const n0 s0; Print 10 s0; Return 0":                                                  fell,
		"Value Int n9223372036854775807; IntBin 10 2 Add s0; Print 11 s0; Return 0":           "-9223372036854775804",
	} {
		if got := done(t, code); got != want {
			t.Errorf("%s: %s, want %s", code, got, want)
		}
	}
}

// P16.2: cells that a frame's Func is over; what no cell may hold falls.
func TestUp(t *testing.T) {
	p := api.Program{
		trials.Fn("Const Store Cell Const 1 Store 1 Cell 1 Fn 1 Call Pop CellLoad Print CellLoad 1 Print Nil Return", trials.Locals(2), trials.Consts(1, "b")),
		trials.Fn("Nil Return", trials.Caps(api.Cap{}, api.Cap{N: 1})),
	}
	of := func(blocks string) []api.Graph {
		g := trials.Graph(0, blocks, "0:")
		g.Fn = 1
		return []api.Graph{g}
	}
	wantOut(t, p, nil, "1", "b")
	wantOut(t, p, of("Up n0; Up n1; UpStore 1 n0 s0; List 0 1 2 s0; UpStore 3 n1 s0; Up n1; Print 5 s0; Up n0; Print 7 s0; Return 0"), "[1, b, nil]", "b", "b", "[1, b, nil]")
	wantOut(t, p, of("Value; Cell 0 s0; UpStore 0 n0 s0; UpStore 1 n1 s0; Print 0 s0; Return 0"), "nil", "b")
}
