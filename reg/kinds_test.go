package reg_test

import (
	"strconv"
	"strings"
	"testing"

	"gearbox/api"
	"gearbox/trials"
	"gearbox/world"
)

// each: a program whose main function prints, from place 5 on, that a frame fell, and whose function 1 comes to 7. At place 2 it is made over the local 0, at 3 called.
func each() api.Program {
	return api.Program{
		trials.Fn("Yes Unless 5 Fn 1 Call Pop Const Print Nil Return Print Nil Return", trials.Locals(1), trials.Consts("fell", "ab", 0), trials.Handlers(3, 4, 9, 0)),
		trials.Fn("Const Return", trials.Consts(7), trials.Caps(api.Cap{})),
	}
}

// kinds: registers that hold a value of each kind: what they are, as texts.
var kinds = []string{"nil", "yes", "5", "ab", "[5]", "{5: 5}", "fn 1", "cell", "no", "0"}

const (
	aNil = iota
	aYes
	aFive
	aText
	aList
	aMap
	aFunc
	aCell
	aNo
	aZero
	result // a register behind these
	beside // another one
)

const made = "Value >1 Bool n1; Value >2 Int n5; Const >3 n1 x0; List >4 2 x0; Map >5 2 2 x0; Cell >7 2 x0; Fn >6 7 n1 x0; Value >8 Bool; Const >9 n2 x0;"

// done: what is printed by code of each's main function, with values of each kind ahead of it.
func done(t *testing.T, code string) string {
	t.Helper()
	c := regs(12, made+code, "5: 0; 3: 7 6; 3: 7 3", "0 at 0: 0")
	o := alike(t, each(), main(c), plenty, plenty, nil)
	if o.End != api.EndDone {
		t.Errorf("%s: %v", code, o)
	}
	return strings.Join(o.Out, " ")
}

// shown: an instruction comes to a value in the register 10, which is printed then.
func shown(t *testing.T, instruction string) string {
	t.Helper()
	return done(t, instruction+"; Print 10 x0; Return 0")
}

// P14.2: instructions of one value, of each kind; what is not told falls.
func TestOfOne(t *testing.T) {
	for code, want := range map[string]map[int]string{
		"Move >10 %":                              {aNil: "nil", aYes: "yes", aFive: "5", aText: "ab", aList: "[5]", aMap: "{5: 5}", aFunc: "fn 1", aNo: "no", aZero: "0"},
		"Cell >10 % x0; CellLoad >10 10 x0":       {aNil: "nil", aYes: "yes", aFive: "5", aText: "ab", aList: "[5]", aMap: "{5: 5}", aFunc: "fn 1", aNo: "no", aZero: "0"},
		"CellLoad >10 % x0":                       {aCell: "5"},
		"Not >10 % x0":                            {aYes: "no", aNo: "yes"},
		"Neg >10 % x0":                            {aFive: "-5", aZero: "0"},
		"Len >10 % x0":                            {aText: "2", aList: "1", aMap: "1"},
		"Show >10 % x0; Len >10 10 x0":            {aNil: "3", aYes: "3", aFive: "1", aText: "2", aList: "3", aMap: "6", aFunc: "4", aNo: "2", aZero: "1"},
		"Guard % Nil x0; Move >10 %":              {aNil: "nil"},
		"Guard % Bool x0; Move >10 %":             {aYes: "yes", aNo: "no"},
		"Guard % Int x0; Move >10 %":              {aFive: "5", aZero: "0"},
		"Guard % Text x0; Move >10 %":             {aText: "ab"},
		"Guard % List x0; Move >10 %":             {aList: "[5]"},
		"Guard % Map x0; Move >10 %":              {aMap: "{5: 5}"},
		"Guard % Func x0; Move >10 %":             {aFunc: "fn 1"},
		"Unless % n11 x0; Print 1 x0; Move >10 2": {aYes: "yes 5", aNo: "5"},
		"List >10 2 % x0":                         {aNil: "[5, nil]", aYes: "[5, yes]", aFive: "[5, 5]", aText: "[5, ab]", aList: "[5, [5]]", aMap: "[5, {5: 5}]", aFunc: "[5, fn 1]", aNo: "[5, no]", aZero: "[5, 0]"},
		"Map >10 % 2 x0":                          {aNil: "{nil: 5}", aYes: "{yes: 5}", aFive: "{5: 5}", aText: "{ab: 5}", aList: "{[5]: 5}", aMap: "{{5: 5}: 5}", aFunc: "{fn 1: 5}", aNo: "{no: 5}", aZero: "{0: 5}"},
		"Fn >10 % n1 x0":                          {aCell: "fn 1"},
		"Throw % x0":                              {},
	} {
		for r := range kinds {
			w, is := want[r]
			if !is {
				w = "fell"
			}
			if got := shown(t, strings.ReplaceAll(code, "%", strconv.Itoa(r))); got != w {
				t.Errorf("%s of %s: %s, want %s", code, kinds[r], got, w)
			}
		}
	}
}

// P14.2: print and return, which come to nothing.
func TestPrintReturn(t *testing.T) {
	for r := range kinds {
		n := strconv.Itoa(r)
		want := kinds[r]
		if r == aCell {
			want = "fell"
		}
		if got := done(t, "Print "+n+" x0; Return "+n); got != want {
			t.Errorf("Print %s: %s", kinds[r], got)
		}
		if got := done(t, "Return "+n); got != "" {
			t.Errorf("Return %s: %s", kinds[r], got)
		}
	}
}

// pairs: what an instruction comes to with two values, told by both of them; all others fall.
func pairs(t *testing.T, code string, want map[[2]int]string) {
	t.Helper()
	for a := range kinds {
		for b := range kinds {
			w, is := want[[2]int{a, b}]
			if !is {
				w = "fell"
			}
			got := shown(t, strings.NewReplacer("%", strconv.Itoa(a), "&", strconv.Itoa(b)).Replace(code))
			if got != w && (w != some || got == "fell") {
				t.Errorf("%s of %s and %s: %s, want %s", code, kinds[a], kinds[b], got, w)
			}
		}
	}
}

// some text: it does not matter which.
const some = "some"

// everyPair: of all values that are no cells.
func everyPair(tells func(a, b int) string) map[[2]int]string {
	m := map[[2]int]string{}
	for a := range kinds {
		for b := range kinds {
			if a != aCell && b != aCell {
				m[[2]int{a, b}] = tells(a, b)
			}
		}
	}
	return m
}

// P14.2: signs, on values of each kind; on whole numbers alone.
func TestSigns(t *testing.T) {
	const five, zero = aFive, aZero
	ints := map[string]map[[2]int]string{
		"Add":  {{five, five}: "10", {five, zero}: "5", {zero, five}: "5", {zero, zero}: "0"},
		"Sub":  {{five, five}: "0", {five, zero}: "5", {zero, five}: "-5", {zero, zero}: "0"},
		"Mul":  {{five, five}: "25", {five, zero}: "0", {zero, five}: "0", {zero, zero}: "0"},
		"Div":  {{five, five}: "1", {zero, five}: "0"},
		"Mod":  {{five, five}: "0", {zero, five}: "0"},
		"Less": {{five, five}: "no", {five, zero}: "no", {zero, five}: "yes", {zero, zero}: "no"},
		"Most": {{five, five}: "yes", {five, zero}: "no", {zero, five}: "yes", {zero, zero}: "yes"},
	}
	texts := map[string]string{"Add": "abab", "Less": "no", "Most": "yes"}
	for sign, want := range ints {
		pairs(t, "IntBin >10 % & "+sign+" x0", want)
		if both, is := texts[sign]; is {
			want[[2]int{aText, aText}] = both
		}
		pairs(t, "Bin >10 % & "+sign+" x0", want)
	}
	pairs(t, "Bin >10 % & Same x0", everyPair(func(a, b int) string { return map[bool]string{true: "yes", false: "no"}[a == b] }))
	pairs(t, "Bin >10 % & Unlike x0", everyPair(func(a, b int) string { return map[bool]string{true: "no", false: "yes"}[a == b] }))
}

// P14.2: cells, items and pairs, on values of each kind.
func TestHeld(t *testing.T) {
	stored := map[[2]int]string{}
	for b := range kinds {
		if b != aCell {
			stored[[2]int{aCell, b}] = kinds[b]
		}
	}
	pairs(t, "CellStore % & x0; CellLoad >10 % x0", stored)
	get := map[[2]int]string{{aList, aZero}: "5", {aText, aZero}: "a"}
	put := map[[2]int]string{{aList, aZero}: "[9]"}
	for b := range kinds {
		if b == aCell {
			continue
		}
		get[[2]int{aMap, b}], put[[2]int{aMap, b}] = "nil", "{5: 5, "+kinds[b]+": 9}"
	}
	get[[2]int{aMap, aFive}], put[[2]int{aMap, aFive}] = "5", "{5: 9}"
	put[[2]int{aMap, aMap}] = some // it holds itself then
	pairs(t, "Get >10 % & x0", get)
	pairs(t, "Value >11 Int n9; Put % & 11 x0; Move >10 %", put)
	// what is put: no cell
	for r := range kinds {
		want := "[" + kinds[r] + "]"
		switch r {
		case aList:
			want = "[[[[[[[[[..]]]]]]]]]"
		case aCell:
			want = "fell"
		}
		if got := shown(t, "Put 4 9 "+strconv.Itoa(r)+" x0; Move >10 4"); got != want {
			t.Errorf("%s is put: %s", kinds[r], got)
		}
	}
	if got := shown(t, "Value >11 Int n1; Put 4 11 3 x0; Move >10 4"); got != "[5, ab]" {
		t.Error("Put at the end:", got)
	}
	if got := shown(t, "Put 4 2 3 x0; Move >10 4"); got != "fell" {
		t.Error("Put behind the end:", got)
	}
}

// P14.2: a call, of values of each kind; it falls to the OpCall of its exit.
func TestCalled(t *testing.T) {
	for r := range kinds {
		// the OpCall of the exit 1 calls a Func, and goes on to the end; that of the exit 2 a Text: what is thrown for that is caught, and printed
		want1, want2 := "fell", "kind"
		if r == aFunc {
			want1, want2 = "7", "7"
		}
		got1, got2 := shown(t, "Call >10 "+strconv.Itoa(r)+" x1"), shown(t, "Call >10 "+strconv.Itoa(r)+" x2")
		if got1 != want1 || got2 != want2 {
			t.Errorf("Call %s: %s, %s", kinds[r], got1, got2)
		}
	}
}

// P14.2: values and constants of each kind.
func TestMade(t *testing.T) {
	for code, want := range map[string]string{
		"Value >10 Nil":                       "nil",
		"Value >10 Bool":                      "no",
		"Value >10 Bool n1":                   "yes",
		"Value >10 Int":                       "0",
		"Value >10 Int n-9":                   "-9",
		"Value >10 Int n-9223372036854775808": "-9223372036854775808",
		"Const >10 n0 x0":                     "fell",
		"Const >10 n1 x0":                     "ab",
		"Const >10 n2 x0":                     "0",
		"List >10 x0":                         "[]",
		"List >10 1 2 3 1 x0":                 "[yes, 5, ab, yes]",
		"Map >10 x0":                          "{}",
		"Map >10 1 2 3 4 1 0 x0":              "{yes: nil, ab: [5]}",
		"Jump n10; Print 1 x0; Print 2 x0":    "yes 5 nil",
		"Jump n11; Print 1 x0; Print 2 x0":    "5 nil",
		"Jump n12; Print 1 x0; Print 2 x0":    "nil",
	} {
		if got := shown(t, code); got != want {
			t.Errorf("%s: %s, want %s", code, got, want)
		}
	}
}

// P14.2: instructions of any values of each kind, as the chapter tells it: none comes to what it should not.
func TestAnyValues(t *testing.T) {
	t.Parallel()
	m := world.Met{}
	for _, code := range []string{"List >10 % & $ x0", "Map >10 % & $ % x0", "Put % & $ x0", "Call >10 % x1", "Print % x0", "CellStore % & x0", "Bin >10 & $ Add x0"} {
		for a := range kinds {
			for b := range kinds {
				for c := range kinds {
					one := made + code + "; Print 10 x0; Print % x0; Print & x0; Print $ x0; Return 0"
					one = strings.NewReplacer("%", strconv.Itoa(a), "&", strconv.Itoa(b), "$", strconv.Itoa(c)).Replace(one)
					alike(t, each(), main(regs(12, one, "5: 0; 3: 7 6", "0 at 0: 0")), plenty, plenty, m)
				}
			}
		}
	}
	enough(t, m, 100, "RList", "RMap", "RPut", "falls at RPut", "falls at RList", "falls at RMap", "falls at RCall")
}
