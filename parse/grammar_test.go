package parse_test

import (
	"slices"
	"strings"
	"testing"

	"gearbox/api"
	"gearbox/parse"
)

// grammar: that of the chapter, written a second time: what each thing is, one way behind the other. A small name is a thing, all else is a word.
const grammar = `
program = | stmt program
stmt = VAR NAME "=" expr ";" | NAME "=" expr ";" | post "[" expr "]" "=" expr ";"
stmt = IF expr block | IF expr block ELSE block | WHILE expr block | RETURN expr ";" | PRINT expr ";" | THROW expr ";"
stmt = TRY block CATCH NAME block | expr ";"
block = "{" program "}"
expr = and | expr OR and
and = not | and AND not
not = NOT not | cmp
cmp = sum | sum "==" sum | sum "!=" sum | sum "<" sum | sum "<=" sum
sum = prod | sum "+" prod | sum "-" prod
prod = un | prod "*" un | prod "/" un | prod "%" un
un = "-" un | "#" un | "$" un | post
post = prim | post "[" expr "]" | post "(" args ")"
prim = INT | TEXT | NIL | YES | NO | NAME | "(" expr ")" | "[" args "]" | "{" "}" | "{" pairs "}"
prim = FN NAME "(" names ")" block | FN "(" names ")" block
pairs = expr ":" expr | pairs "," expr ":" expr
args = | some
some = expr | some "," expr
names = | named
named = NAME | named "," NAME
`

// way is one of those in which a thing is made of others.
type way struct {
	thing string
	of    []string
}

func ways() map[string][]way {
	m := map[string][]way{}
	for _, l := range strings.Split(strings.TrimSpace(grammar), "\n") {
		thing, of, _ := strings.Cut(l, " =")
		for _, w := range strings.Split(of, "|") {
			m[thing] = append(m[thing], way{thing, strings.Fields(w)})
		}
	}
	return m
}

// item is a way of which so much was seen since a place.
type item struct {
	thing string
	which int
	seen  int
	since int
}

// reading is what some words may be, by the ways of Earley: all items at each place.
type reading struct {
	ways map[string][]way
	sets [][]item
}

func newReading() *reading {
	r := &reading{ways: ways()}
	r.grow([]item{{"program", 0, 0, 0}, {"program", 1, 0, 0}})
	return r
}

func (r *reading) next(i item) string {
	of := r.ways[i.thing][i.which].of
	if i.seen == len(of) {
		return ""
	}
	return of[i.seen]
}

// grow: one set more, with all that follows from its first items.
func (r *reading) grow(set []item) {
	at := len(r.sets)
	in := map[item]bool{}
	for _, i := range set {
		in[i] = true
	}
	add := func(i item) {
		if !in[i] {
			in[i] = true
			set = append(set, i)
		}
	}
	for again := true; again; { // a thing that is nothing may be seen ahead of what asks for it
		n := len(set)
		for k := 0; k < len(set); k++ {
			i := set[k]
			next := r.next(i)
			if next == "" {
				from := set
				if i.since < at {
					from = r.sets[i.since]
				}
				for _, j := range from[:len(from):len(from)] {
					if r.next(j) == i.thing {
						j.seen++
						add(j)
					}
				}
				continue
			}
			for w := range r.ways[next] {
				add(item{next, w, 0, at})
			}
		}
		again = len(set) > n
	}
	r.sets = append(r.sets, set)
}

// read: may a program go on with a word? If so, it does.
func (r *reading) read(word string) bool {
	at := len(r.sets) - 1
	var set []item
	for _, i := range r.sets[at] {
		if r.next(i) == word {
			i.seen++
			set = append(set, i)
		}
	}
	if len(set) == 0 {
		return false
	}
	r.grow(set)
	return true
}

// back: the last word is unread.
func (r *reading) back() { r.sets = r.sets[:len(r.sets)-1] }

// whole: are the words up to here a program?
func (r *reading) whole() bool {
	return slices.ContainsFunc(r.sets[len(r.sets)-1], func(i item) bool {
		return i.thing == "program" && i.since == 0 && r.next(i) == ""
	})
}

// terms: all words of the grammar, and how they stand in a text.
func terms() (all []string, as map[string]string) {
	as = map[string]string{"NAME": "a", "INT": "1", "TEXT": `"x"`}
	all = []string{"NAME", "INT", "TEXT"}
	for _, s := range keyWords {
		all = append(all, strings.ToUpper(s))
		as[strings.ToUpper(s)] = s
	}
	for _, s := range strings.Fields("( ) { } [ ] , ; : = == != < <= + - * / % # $") {
		all = append(all, `"`+s+`"`)
		as[`"`+s+`"`] = s
	}
	return all, as
}

// explorer holds Parse against the grammar, each word in a line of its own.
type explorer struct {
	*reading
	t    *testing.T
	all  []string
	as   map[string]string
	text []string
}

func newExplorer(t *testing.T) *explorer {
	all, as := terms()
	return &explorer{newReading(), t, all, as, nil}
}

// check: what Parse says of the words so far, all of which some program begins with.
func (e *explorer) check() {
	s := strings.Join(e.text, "\n")
	_, line, err := parse.Parse(s)
	switch {
	case e.whole():
		if line != 0 || err != api.OK && err != api.ErrLimit {
			e.t.Errorf("Parse(%q): %d, %d, but it is a program", s, line, err)
		}
	case line != len(e.text)-1 || err != api.ErrSyntax:
		e.t.Errorf("Parse(%q): %d, %d, but it ends too early", s, line, err)
	}
}

// checkFault: what Parse says of a word more, with which no program goes on, and of others behind it.
func (e *explorer) checkFault(word string) {
	s := strings.Join(append(e.text, e.as[word]), "\n")
	for _, behind := range []string{"", "\n;", "\n1", "\na", "\n}", "\n)\n;\n}\n"} {
		if l, line, err := parse.Parse(s + behind); l != nil || line != len(e.text) || err != api.ErrSyntax {
			e.t.Errorf("Parse(%q): %v, %d, %d, but it is wrong at the word %d", s+behind, l, line, err, len(e.text))
		}
	}
}

// each goes on with each word that a program may go on with.
func (e *explorer) each(visit func(word string)) {
	for _, w := range e.all {
		if !e.read(w) {
			e.checkFault(w)
			continue
		}
		e.text = append(e.text, e.as[w])
		e.check()
		visit(w)
		e.text = e.text[:len(e.text)-1]
		e.back()
	}
}

// P6.1: all programs' beginnings of a few words, and all that are none for their last word.
func TestShortPrograms(t *testing.T) {
	e := newExplorer(t)
	e.check()
	var deeper func(n int)
	deeper = func(n int) {
		if n > 0 && !t.Failed() {
			e.each(func(string) { deeper(n - 1) })
		}
	}
	deeper(4)
}

// P6.1: longer beginnings, at each place with each word.
func TestLongPrograms(t *testing.T) {
	for seed := range 40 {
		d := dice(seed)
		e := newExplorer(t)
		for range 10 + d.below(50) {
			var may []string
			e.each(func(w string) { may = append(may, w) })
			w := may[d.below(len(may))]
			if enders := slices.DeleteFunc(slices.Clone(may), func(w string) bool { return !strings.Contains(`")" "]" "}" ";"`, w) }); len(enders) > 0 && d.below(3) == 0 {
				w = enders[d.below(len(enders))]
			}
			e.read(w)
			e.text = append(e.text, e.as[w])
		}
		if t.Failed() {
			t.Fatalf("start %d", seed)
		}
	}
}

// dice is a row of numbers that hangs on its start alone.
type dice uint64

func (d *dice) below(n int) int {
	*d = *d*6364136223846793005 + 1442695040888963407
	return int(uint64(*d) >> 33 % uint64(n))
}
