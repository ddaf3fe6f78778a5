// Package samples makes programs that the layers are tested with. What it makes hangs on a seed alone.
package samples

import (
	"strconv"
	"strings"
)

// Dice is a row of numbers that hangs on its start alone.
type Dice uint64

// Below: the next number, from 0 on.
func (d *Dice) Below(n int) int {
	*d = *d*6364136223846793005 + 1442695040888963407
	return int(uint64(*d) >> 33 % uint64(n))
}

// Of: the next one of these.
func (d *Dice) Of(l ...string) string { return l[d.Below(len(l))] }

// Text: a program, in which each name is known where it is used. Some are too great to have code.
func Text(seed int) string {
	d := Dice(seed)
	w := writer{dice: &d, names: strings.Fields("a b c d e f g h")[:1+seed%8], wide: 4, left: 30 + 30*(seed%5)}
	if seed%11 == 0 {
		w.wide = 270
	}
	for range 1 + d.Below(9) {
		w.stmt(2 + d.Below(5))
	}
	return w.String()
}

// writer writes a program.
type writer struct {
	strings.Builder
	dice  *Dice
	names []string // those that there are in all
	known []string // those that are known where it writes
	wide  int      // how many items lists have, at most
	left  int      // how many parts may come yet
}

func (w *writer) put(l ...string) {
	for _, s := range l {
		w.WriteString(s)
	}
}

func (w *writer) name() string { return w.dice.Of(w.names...) }

// within: what is known in it is known no longer.
func (w *writer) within(f func()) {
	known := w.known
	f()
	w.known = known[:len(known):len(known)]
}

func (w *writer) block(deep int, names ...string) {
	w.put(" {\n")
	w.within(func() {
		w.known = append(w.known, names...)
		for range w.dice.Below(4) {
			if w.left > 0 {
				w.stmt(deep - 1)
			}
		}
	})
	w.put("}")
}

func (w *writer) stmt(deep int) {
	w.left--
	switch w.dice.Below(13) {
	case 0, 1, 2:
		w.variable(deep)
	case 3, 4:
		w.set(deep)
	case 5:
		w.operand(deep)
		w.put("[")
		w.expr(deep)
		w.put("] = ")
		w.ended("", deep)
	case 6:
		w.condition(deep)
	case 7:
		w.put("while ")
		w.expr(deep)
		w.block(deep)
		w.put("\n")
	case 8:
		name := w.name()
		w.put("try")
		w.block(deep)
		w.put(" catch ", name)
		w.block(deep, name)
		w.put("\n")
	case 9:
		w.ended(w.dice.Of("return ", "throw "), deep)
	case 10, 11:
		w.ended("print ", deep)
	case 12:
		w.operand(deep)
		w.put(";\n")
	}
}

func (w *writer) variable(deep int) {
	name := w.name()
	w.known = append(w.known, name)
	w.ended("var "+name+" = ", deep)
}

func (w *writer) set(deep int) {
	if len(w.known) == 0 {
		w.variable(deep)
		return
	}
	w.ended(w.dice.Of(w.known...)+" = ", deep)
}

func (w *writer) condition(deep int) {
	w.put("if ")
	w.expr(deep)
	w.block(deep)
	if w.dice.Below(2) == 0 {
		w.put(" else")
		w.block(deep)
	}
	w.put("\n")
}

// ended: a statement that ends with an expression.
func (w *writer) ended(ahead string, deep int) {
	w.put(ahead)
	w.expr(deep)
	w.put(";\n")
}

func (w *writer) operand(deep int) {
	w.put("(")
	w.expr(deep)
	w.put(")")
}

func (w *writer) expr(deep int) {
	w.left--
	if deep <= 0 || w.left <= 0 || w.dice.Below(4) == 0 {
		w.leaf()
		return
	}
	switch w.dice.Below(9) {
	case 0, 1:
		w.between(deep, w.dice.Of(" + ", " - ", " * ", " / ", " % ", " < ", " <= ", " == ", " != "))
	case 2:
		w.between(deep, w.dice.Of(" and ", " or "))
	case 3:
		w.put(w.dice.Of("not ", "-", "#", "$"))
		w.operand(deep - 1)
	case 4:
		w.row("[", "]", deep, func() {})
	case 5:
		w.row("{", "}", deep, func() {
			w.expr(deep - 2)
			w.put(": ")
		})
	case 6:
		w.operand(deep - 1)
		w.put("[")
		w.expr(deep - 1)
		w.put("]")
	case 7:
		w.operand(deep - 1)
		w.row("(", ")", deep, func() {})
	case 8:
		w.function(deep)
	}
}

func (w *writer) leaf() {
	if len(w.known) > 0 && w.dice.Below(2) == 0 {
		w.put(w.dice.Of(w.known...))
		return
	}
	w.put(w.dice.Of("nil", "yes", "no", `""`, `"a"`, `"0"`, strconv.Itoa(w.dice.Below(4)), strconv.Itoa(w.dice.Below(1000))))
}

func (w *writer) between(deep int, sign string) {
	w.operand(deep - 1)
	w.put(sign)
	w.operand(deep - 1)
}

// row: items with commas between, each with something ahead of it.
func (w *writer) row(first, last string, deep int, ahead func()) {
	w.put(first)
	for i := range w.dice.Below(w.wide) {
		if i > 0 {
			w.put(", ")
		}
		ahead()
		w.expr(deep - 2)
	}
	w.put(last)
}

func (w *writer) function(deep int) {
	params := w.names[:w.dice.Below(min(4, len(w.names)+1))]
	w.put("fn ", w.dice.Of("", "", w.name()), "(", strings.Join(params, ", "), ")")
	w.block(deep, params...)
}
