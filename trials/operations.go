package trials

import (
	"math"
	"slices"
	"strconv"
	"strings"

	"gearbox/api"
)

// animal is a value of some kind, as code that pushes it where the local 0 is a cell of 7; another one of that kind; and its text.
type animal struct{ kind, code, other, text string }

// zoo: values of every kind, the cell last.
func zoo() []animal {
	return []animal{
		{"nil", "Nil", "Nil", "nil"},
		{"yes", "Yes", "Yes", "yes"},
		{"no", "No", "No", "no"},
		{"int", "Const 0", "Const 2", "7"},
		{"text", "Const 1", "Const 3", "ab"},
		{"list", "Const 0 List 1", "Const 0 List 1", "[7]"},
		{"map", "Const 0 Const 1 Map 1", "Const 0 Const 1 Map 1", "{7: ab}"},
		{"func", "Fn 1", "Fn 1", "fn 1"},
		{"cell", "Load 0", "Load 0", ""},
	}
}

// but: what is there of a value, unless it is a cell: then it is thrown at.
func (a animal) but(text string) string {
	if a.kind == "cell" {
		return "kind"
	}
	return text
}

// constants of the functions in which values of the zoo are pushed.
func constants() Part { return Consts(7, "ab", 3, "b") }

// tried: a program that pushes what the code pushes, or what it throws, and does then what stands behind.
func tried(code, behind string, parts ...Part) api.Program {
	const first = "Const 0 Store 0 Cell 0 "
	body := Fn(code)
	at := 3 + len(body.Code)
	jump := at + 1
	f := Fn(first+"Nil Pop "+behind, append(parts, constants(), func(f *api.Fn) { f.Locals = max(f.Locals, 1) })...)
	guarded := append(slices.Clone(body.Code), api.Ins{Op: api.OpJump, A: jump})
	f.Code = slices.Replace(f.Code, 3, 5, guarded...)
	f.Lines = make([]int, len(f.Code))
	f.Handlers = append(f.Handlers, api.Handler{From: 3, To: at, At: jump})
	return api.Program{f, Fn("Nil Return")}
}

// printed: likewise; what is pushed is printed then.
func printed(code string, parts ...Part) api.Program {
	return tried(code, "Print Nil Return", parts...)
}

// pushed: what code pushes, or throws, shows as this.
func (b *book) pushed(code, shows string) { b.out(printed(code), shows) }

func (b *book) operations() {
	for _, z := range zoo() {
		b.one(z)
		b.rows(z)
		b.prints(z)
		b.kept(z)
		b.unless(z)
		for _, k := range zoo() {
			b.two(z, k)
			b.gets(z, k)
			for _, x := range zoo() {
				b.puts(z, k, x)
			}
		}
	}
	b.edges()
	b.ways()
}

// one: operations on one value.
func (b *book) one(z animal) {
	b.name = "operations on one value"
	not, neg, length := "kind", "kind", "kind"
	switch z.kind {
	case "yes":
		not = "no"
	case "no":
		not = "yes"
	case "int":
		neg = "-7"
	case "text":
		length = "2"
	case "list", "map":
		length = "1"
	}
	b.pushed(z.code+" Not", not)
	b.pushed(z.code+" Neg", neg)
	b.pushed(z.code+" Len", length)
	b.pushed(z.code+" Show", z.but(z.text))
	if z.kind != "cell" {
		b.pushed(z.code+" Show Const 3 Bin 1", z.text+"b") // it is a Text
	}
}

// two: operations on two values.
func (b *book) two(a, k animal) {
	b.name = "operations on two values"
	for op := api.Add; op <= api.Unlike; op++ {
		b.pushed(a.code+" "+k.other+" Bin "+strconv.Itoa(int(op)), comesOf(op, a.kind, k.kind))
	}
	if a == k && a.kind != "cell" { // a value is the same as itself
		b.pushed(a.code+" Dup Bin 8", "yes")
		b.pushed(a.code+" Dup Bin 9", "no")
	}
}

// comesOf: what a Bin of two values of these kinds shows as, the Ints being 7 and 3, the Texts ab and b.
func comesOf(op api.Bin, a, b string) string {
	switch {
	case a == "cell" || b == "cell":
		return "kind"
	case op == api.Same || op == api.Unlike:
		if (a == b && slices.Contains([]string{"nil", "yes", "no"}, a)) == (op == api.Same) {
			return "yes"
		}
		return "no"
	case a == "int" && b == "int":
		return strings.Fields("10 4 21 2 1 no no")[op-1]
	case a == "text" && b == "text":
		return strings.Fields("abb kind kind kind kind yes yes")[op-1]
	}
	return "kind"
}

// rows: lists and maps of a value.
func (b *book) rows(z animal) {
	b.name = "lists and maps"
	b.pushed(z.code+" Const 2 List 2", z.but("["+z.text+", 3]"))
	b.pushed(z.code+" Const 2 Map 1", z.but("{"+z.text+": 3}"))
	b.pushed("Const 2 "+z.code+" Map 1", z.but("{3: "+z.text+"}"))
}

func (b *book) gets(v, k animal) {
	b.name = "what is got"
	w := "kind"
	switch {
	case k.kind == "cell":
	case v.kind == "map" && k.kind == "int":
		w = "ab"
	case v.kind == "map":
		w = "nil"
	case k.kind == "int" && (v.kind == "list" || v.kind == "text"):
		w = "bounds"
	}
	b.pushed(v.code+" "+k.code+" Get", w)
}

func (b *book) puts(v, k, x animal) {
	b.name = "what is put"
	w := "kind"
	switch {
	case k.kind == "cell" || x.kind == "cell":
	case v.kind == "map" && k.kind == "int":
		w = "{7: " + x.text + "}"
	case v.kind == "map":
		w = "{7: ab, " + k.text + ": " + x.text + "}"
	case v.kind == "list" && k.kind == "int":
		w = "bounds"
	}
	b.pushed(v.code+" Dup "+k.code+" "+x.code+" Put", w)
}

// prints: what is printed; cells are thrown at.
func (b *book) prints(z animal) {
	b.name = "what is printed"
	if z.kind == "cell" {
		b.out(printed(z.code+" Print Yes"), "kind")
		return
	}
	b.out(printed(z.code+" Print Yes"), z.text, "yes")
}

// kept: locals hold values of every kind, cells too; a value that is taken is there no more.
func (b *book) kept(z animal) {
	b.name = "locals"
	if z.kind == "cell" {
		b.out(printed("Load 0 Store 1 CellLoad 1", Locals(2)), "7")
		b.out(printed("Load 0 Dup Store 1 Store 2 Nil CellStore 2 CellLoad 1", Locals(3)), "nil")
		b.out(printed("Load 0 Pop Yes"), "yes")
		return
	}
	b.out(printed(z.code+" Store 1 Load 1", Locals(2)), z.text)
	b.out(printed(z.code+" Dup Pop"), z.text)
	b.out(printed("Const 2 "+z.code+" Pop"), "3")
}

func (b *book) unless(z animal) {
	b.name = "branches"
	w := "kind"
	switch z.kind {
	case "yes":
		w = "7"
	case "no":
		w = "3"
	}
	at := 3 + len(Fn(z.code).Code) // where it stands
	b.pushed(z.code+" Unless "+strconv.Itoa(at+3)+" Const 0 Jump "+strconv.Itoa(at+4)+" Const 2", w)
}

// edges: of operations on values.
func (b *book) edges() {
	b.name = "edges of operations"
	const zero, one = " Const 0 Dup Bin 2", " Const 0 Dup Bin 4"
	b.pushed("Const 0 Const 0 Const 0 Bin 2 Bin 4", "zero")
	b.pushed("Const 0 Const 0 Const 0 Bin 2 Bin 5", "zero")
	b.pushed("Const 2 Const 0 Bin 2", "-4") // in their order
	b.pushed("List", "[]")
	b.pushed("Map", "{}")
	b.pushed("Const 0 Const 1 Const 2 List 3", "[7, ab, 3]")
	b.pushed("Const 0 Const 1 Const 2 Const 3 Const 0 Nil Map 3", "{7: nil, 3: b}")
	b.pushed("Const 1 Nil Const 1 Yes Map 2", "{ab: yes}")
	b.pushed("Nil Const 0 List 1 Bin 9", "yes") // what is beneath stays
	b.pushed("Const 1"+zero+" Get Const 3 Bin 1", "ab")
	b.pushed("Const 1"+one+" Get", "b")
	b.pushed("Const 2 Const 1 List 2"+zero+" Get", "3")
	b.pushed("Const 2 Const 1 List 2"+one+" Get", "ab")
	b.pushed("Const 2 Const 1 List 2 Const 0 Neg Get", "bounds")
	b.pushed("Const 1 Const 0 Map 1 Const 1 Get", "7") // a Text that says the same
	b.pushed("Const 2 List 1 Dup"+zero+" Nil Put", "[nil]")
	b.pushed("Const 2 List 1 Dup"+one+" Nil Put", "[3, nil]")
	b.pushed("Const 2 List 1 Dup"+one+" Nil Put Dup Len Bin 9", "yes") // nothing is pushed
	b.pushed("List Dup"+one+" Nil Put", "bounds")
	b.pushed("List Dup"+zero+" Nil Put", "[nil]")
	b.pushed("List Dup Const 0 Neg Nil Put", "bounds")
	b.pushed("Const 1 Const 0 Map 1 Dup Const 1 Const 2 Put", "{ab: 3}")
}

// ways: constants, jumps and loops.
func (b *book) ways() {
	b.name = "constants"
	f := Fn("Const Print Const 1 Print Const 2 Print Nil Print Yes Print No Print Nil Return", Consts(math.MinInt64, "a b", math.MaxInt64))
	b.out(api.Program{f}, "-9223372036854775808", "a b", "9223372036854775807", "nil", "yes", "no")
	f = Fn("Const Store Const Load Bin 8 Print Load Load Bin 8 Print Const Dup Bin 8 Print Nil Return", Consts("a"), Locals(1))
	b.out(api.Program{f}, "yes", "yes", "yes")
	f = Fn("Const List 1 Const List 1 Bin 8 Print Nil Return", Consts("a"))
	b.out(api.Program{f}, "no")
	f = Fn("Load Print Load 1 Print Yes Store No Store 1 Load 1 Print Load Print Load Store 1 Load 1 Print Nil Return", Locals(2))
	b.out(api.Program{f}, "nil", "nil", "no", "yes", "yes")
	b.name = "jumps and loops"
	f = Fn("Yes Unless 5 Const Print Jump 7 Const 1 Print Nil Return", Consts(1, 2))
	b.out(api.Program{f}, "1")
	f = Fn("Const Store Load Const 1 Bin 6 Unless 13 Load Print Load Const 2 Bin 1 Store Loop 2 Nil Return", Consts(0, 3, 1), Locals(1))
	p := api.Program{f}
	b.out(p, "0", "1", "2")
	b.want(p, Plenty, 3, api.Outcome{End: api.EndDone, Out: []string{"0", "1", "2"}})
	b.want(p, Plenty, 2, api.Outcome{End: api.EndFuel, Out: []string{"0", "1", "2"}})
	b.want(p, Plenty, 0, api.Outcome{End: api.EndFuel, Out: []string{"0"}})
	b.want(api.Program{Fn("Loop")}, 1, 7, api.Outcome{End: api.EndFuel})
}
