package prim_test

import (
	"math/big"
	"slices"
	"strconv"
	"strings"
	"testing"

	"gearbox/api"
	"gearbox/prim"
	"gearbox/show"
)

// world is a store in which what the chapter says is worked out once more, word for word.
type world struct{ s api.Store }

func (w world) throw(text string) prim.Did { return prim.Did{Store: w.s, Thrown: text} }
func (w world) value(v api.Val) prim.Did   { return prim.Did{Store: w.s, Val: v} }

func (w world) truth(yes bool) prim.Did {
	if yes {
		return w.value(val(api.Bool, 1))
	}
	return w.value(no)
}

// words: as DOC.md tells them.
func words(o api.Obj) int {
	n := 0
	switch o.Kind {
	case api.Text:
		n = 2
		for i := range len(o.S) {
			if i%8 == 0 {
				n++
			}
		}
	case api.List, api.Map:
		n = 3
		if o.Room != 0 {
			n += 1 + 2*o.Room
		}
	case api.Func:
		n = 2 + 2*len(o.L)
	case api.Cell:
		n = 3
	}
	return n
}

func (w world) make(o api.Obj) prim.Did {
	return prim.Did{Store: append(slices.Clone(w.s), o), Val: val(o.Kind, int64(len(w.s)+1)), Words: words(o)}
}

func (w world) same(a, b api.Val) bool {
	switch {
	case a.Kind != b.Kind:
		return false
	case a.Kind == api.Nil:
		return true
	case a.Kind == api.Text:
		return w.s[a.N-1].S == w.s[b.N-1].S
	}
	return a.N == b.N
}

// kinds of values, as letters.
func kinds(l ...api.Val) string {
	s := ""
	for _, v := range l {
		s += string("nbitlmfc"[v.Kind])
	}
	return s
}

// wraps: a number in 64 bits.
func wraps(n *big.Int) api.Val {
	n = new(big.Int).And(n, new(big.Int).SetUint64(1<<64-1))
	return num(int64(n.Uint64()))
}

func (w world) ints(op api.Bin, x, y int64) prim.Did {
	a, b, z := big.NewInt(x), big.NewInt(y), new(big.Int)
	switch op {
	case api.Add:
		return w.value(wraps(z.Add(a, b)))
	case api.Sub:
		return w.value(wraps(z.Sub(a, b)))
	case api.Mul:
		return w.value(wraps(z.Mul(a, b)))
	case api.Less:
		return w.truth(a.Cmp(b) < 0)
	case api.Most:
		return w.truth(a.Cmp(b) <= 0)
	}
	if y == 0 {
		return w.throw("zero")
	}
	if op == api.Div {
		return w.value(wraps(z.Quo(a, b)))
	}
	return w.value(wraps(z.Rem(a, b)))
}

func (w world) bin(op api.Bin, a, b api.Val) prim.Did {
	switch {
	case op == api.Same:
		return w.truth(w.same(a, b))
	case op == api.Unlike:
		return w.truth(!w.same(a, b))
	case op == api.BinNone || op > api.Unlike:
		return w.throw("kind")
	case kinds(a, b) == "ii":
		return w.ints(op, a.N, b.N)
	case kinds(a, b) != "tt":
		return w.throw("kind")
	}
	x, y := w.s[a.N-1].S, w.s[b.N-1].S
	switch op {
	case api.Add:
		return w.text(strings.Join([]string{x, y}, ""))
	case api.Less:
		return w.truth(slices.Compare([]byte(x), []byte(y)) < 0)
	case api.Most:
		return w.truth(slices.Compare([]byte(x), []byte(y)) <= 0)
	}
	return w.throw("kind")
}

func (w world) text(s string) prim.Did {
	if len(s) > 4096 {
		return w.throw("great")
	}
	return w.make(says(s))
}

func (w world) one(op string, a api.Val) prim.Did {
	switch op + " " + kinds(a) {
	case "Not b":
		return w.value(val(api.Bool, 1-a.N))
	case "Neg i":
		return w.value(wraps(new(big.Int).Neg(big.NewInt(a.N))))
	case "Len t":
		return w.value(num(int64(len(w.s[a.N-1].S))))
	case "Len l":
		return w.value(num(int64(len(w.s[a.N-1].L))))
	case "Len m":
		return w.value(num(int64(len(w.s[a.N-1].L) / 2)))
	}
	if op != "Show" {
		return w.throw("kind")
	}
	if s, ok := show.Text(w.s, a); ok {
		return w.text(s)
	}
	return w.throw("great")
}

func (w world) list(l []api.Val) prim.Did {
	if len(l) > 65536 {
		return w.throw("items")
	}
	return w.make(listOf(l...))
}

// pair: pairs with one more put among them.
func (w world) pair(l []api.Val, k, x api.Val) []api.Val {
	l = slices.Clone(l)
	for i := range l {
		if i%2 == 0 && w.same(l[i], k) {
			l[i+1] = x
			return l
		}
	}
	return append(l, k, x)
}

func (w world) dict(l []api.Val) prim.Did {
	switch {
	case len(l)%2 == 1:
		return w.throw("kind")
	case len(l)/2 > 65536:
		return w.throw("items")
	}
	var once []api.Val
	for p := range slices.Chunk(l, 2) {
		once = w.pair(once, p[0], p[1])
	}
	return w.make(with(len(l), mapOf(once...)))
}

func (w world) get(v, k api.Val) prim.Did {
	switch kinds(v, k) {
	case "li":
		if l := w.s[v.N-1].L; k.N >= 0 && k.N < int64(len(l)) {
			return w.value(l[k.N])
		}
		return w.throw("bounds")
	case "ti":
		if s := w.s[v.N-1].S; k.N >= 0 && k.N < int64(len(s)) {
			return w.text(string([]byte{s[k.N]}))
		}
		return w.throw("bounds")
	}
	if v.Kind != api.Map {
		return w.throw("kind")
	}
	for p := range slices.Chunk(w.s[v.N-1].L, 2) {
		if w.same(p[0], k) {
			return w.value(p[1])
		}
	}
	return w.value(none)
}

// grown: an object of a number has these values; the words that are asked for, if its Room is too little.
func (w world) grown(n int64, l []api.Val, least int) prim.Did {
	d := prim.Did{Store: slices.Clone(w.s)}
	o := &d.Store[n-1]
	o.L = l
	if len(l) > o.Room {
		o.Room = max(least, o.Room+o.Room)
		d.Words = 1 + 2*o.Room
	}
	return d
}

func (w world) put(v, k, x api.Val) prim.Did {
	if kinds(v) == "m" {
		o := w.s[v.N-1]
		l := w.pair(o.L, k, x)
		if len(l) > 131072 {
			return w.throw("items")
		}
		return w.grown(v.N, l, 8)
	}
	if kinds(v, k) != "li" {
		return w.throw("kind")
	}
	l := slices.Clone(w.s[v.N-1].L)
	switch n := int64(len(l)); {
	case k.N >= 0 && k.N < n:
		l[k.N] = x
		return w.grown(v.N, l, 4)
	case k.N != n:
		return w.throw("bounds")
	case n == 65536:
		return w.throw("items")
	}
	return w.grown(v.N, append(l, x), 4)
}

// does: what a call comes to.
func (w world) does(c call) prim.Did {
	v := c.vals
	for _, x := range v {
		if !show.Check(w.s, x) || (x.Kind == api.Cell) != (c.op == "Fn") {
			return w.throw("kind")
		}
	}
	switch c.op {
	case "Bin":
		return w.bin(c.bin, v[0], v[1])
	case "Text":
		return w.text(c.text)
	case "List":
		return w.list(v)
	case "Map":
		return w.dict(v)
	case "Cell":
		return w.make(cellOf(v[0]))
	case "Fn":
		return w.make(fnOf(c.fn, v...))
	case "Get":
		return w.get(v[0], v[1])
	case "Put":
		return w.put(v[0], v[1], v[2])
	}
	return w.one(c.op, v[0])
}

// alike holds a call against what is worked out here, and asks what follows of it.
func alike(t *testing.T, s api.Store, c call) prim.Did {
	t.Helper()
	d := do(t, s, c)
	if w := (world{s}).does(c); !sameDid(d, w) {
		t.Errorf("%s of %s: %s, want %s", brief(c), brief(s), brief(d), brief(w))
	}
	follows(t, s, c, d)
	return d
}

// follows: P11.5.
func follows(t *testing.T, s api.Store, c call, d prim.Did) {
	t.Helper()
	ahead := slices.Clone(c.vals)
	for range 2 { // of the call's values, then of all that there are
		if n, most := show.Words(d.Store, append(ahead, d.Val)), show.Words(s, ahead)+d.Words; n > most {
			t.Errorf("%s of %s: %d words, at most %d", brief(c), brief(s), n, most)
		}
		for i, o := range s {
			ahead = append(ahead, val(o.Kind, int64(i)+1))
		}
	}
	for i, o := range d.Store[:len(s)] {
		named := c.op == "Put" && c.vals[0].N == int64(i)+1 && d.Thrown == ""
		if !named && !sameStores(api.Store{o}, s[i:i+1]) {
			t.Errorf("%s of %s: %s, which it does not name", brief(c), brief(s), brief(d))
		}
	}
	if d.Thrown != "" && !sameDid(d, prim.Did{Store: s, Thrown: d.Thrown}) {
		t.Errorf("%s of %s throws, and does %s", brief(c), brief(s), brief(d))
	}
	mayStillBe(t, s, c, d)
}

// mayStillBe: what may be ahead of an operation may be behind it, and so may what it comes to.
func mayStillBe(t *testing.T, s api.Store, c call, d prim.Did) {
	t.Helper()
	if !show.Check(d.Store, d.Val) && c.op != "Fn" {
		t.Errorf("%s of %s: %s, which may not be", brief(c), brief(s), brief(d))
	}
	for i, o := range s {
		v := val(o.Kind, int64(i)+1)
		if show.Check(s, v) && !show.Check(d.Store, v) {
			t.Errorf("%s of %s: %s, in which %s may not be", brief(c), brief(s), brief(d), strconv.Itoa(i+1))
		}
	}
}
