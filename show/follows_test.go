package show_test

import (
	"slices"
	"strconv"
	"strings"
	"testing"

	"gearbox/api"
	"gearbox/show"
)

// world is a store in which what the chapter says is worked out once more, word for word: whole texts first and their length behind that, sets of objects grown until they grow no more.
type world struct {
	api.Store
	texts map[shown]string
}

// shown is a value within so many others.
type shown struct {
	v      api.Val
	within int
}

func look(s api.Store) *world { return &world{s, map[shown]string{}} }

func (w *world) leads(v api.Val) bool {
	return strings.IndexByte("\x03\x04\x05\x06\x07", byte(v.Kind)) >= 0 && v.N >= 1 && v.N <= int64(len(w.Store)) && w.Store[v.N-1].Kind == v.Kind
}

func (w *world) text(v api.Val, within int) string {
	if a, ok := w.texts[shown{v, within}]; ok {
		return a
	}
	a := w.newText(v, within)
	w.texts[shown{v, within}] = a
	return a
}

func (w *world) newText(v api.Val, within int) string {
	switch {
	case v.Kind == api.Nil:
		return "nil"
	case v == yes:
		return "yes"
	case v.Kind == api.Bool:
		return "no"
	case v.Kind == api.Int:
		return strconv.Itoa(int(v.N))
	case !w.leads(v) || v.Kind == api.Cell:
		return "?"
	}
	o := w.Store[v.N-1]
	switch {
	case v.Kind == api.Text:
		return o.S
	case v.Kind == api.Func:
		return "fn " + strconv.Itoa(o.Fn)
	case within > 8:
		return ".."
	}
	var parts []string
	for _, x := range o.L {
		parts = append(parts, w.text(x, within+1))
	}
	if v.Kind == api.List {
		return "[" + strings.Join(parts, ", ") + "]"
	}
	if len(parts)%2 == 1 {
		parts = append(parts, "nil")
	}
	var pairs []string
	for p := range slices.Chunk(parts, 2) {
		pairs = append(pairs, strings.Join(p, ": "))
	}
	return "{" + strings.Join(pairs, ", ") + "}"
}

// reached: which objects values lead to, a yes or no for each of the store.
func (w *world) reached(l []api.Val) []bool {
	in := make([]bool, len(w.Store))
	for more := true; more; {
		more = false
		for _, v := range l {
			if w.leads(v) && !in[v.N-1] {
				in[v.N-1], more = true, true
			}
		}
		for i, o := range w.Store {
			if in[i] {
				l = append(l, o.L...)
			}
		}
	}
	return in
}

func (w *world) words(l []api.Val) int {
	n := 0
	for i, in := range w.reached(l) {
		o := w.Store[i]
		switch {
		case !in:
		case o.Kind == api.Text:
			n += 2 + len(o.S)/8
			if len(o.S)%8 > 0 {
				n++
			}
		case o.Kind == api.Func:
			n += 2 + 2*len(o.L)
		case o.Kind == api.Cell || o.Room <= 0:
			n += 3
		default:
			n += 3 + 1 + 2*o.Room
		}
	}
	return n
}

func (w *world) mayBe(v api.Val) bool {
	switch v.Kind {
	case api.Nil:
		return v == none
	case api.Bool:
		return v == yes || v == no
	case api.Int:
		return true
	}
	return w.leads(v)
}

func (w *world) check(v api.Val) bool {
	if !w.mayBe(v) {
		return false
	}
	for i, in := range w.reached([]api.Val{v}) {
		if in && !w.objectMayBe(w.Store[i]) {
			return false
		}
	}
	return true
}

func (w *world) objectMayBe(o api.Obj) bool {
	for _, v := range o.L {
		if !w.mayBe(v) || o.Kind == api.Func && v.Kind != api.Cell || o.Kind != api.Func && v.Kind == api.Cell {
			return false
		}
	}
	bare := o // without what its kind has
	switch o.Kind {
	case api.Text:
		bare.S = ""
		if len(o.S) > 4096 || len(o.L) > 0 {
			return false
		}
	case api.List, api.Map:
		bare.Room = 0
		if o.Room < len(o.L) || o.Room > 262144 || o.Kind == api.Map && !w.pairsMayBe(o.L) || o.Kind == api.List && len(o.L) > 65536 {
			return false
		}
	case api.Func:
		bare.Fn = 0
		if o.Fn < 0 || o.Fn > 255 {
			return false
		}
	case api.Cell:
		if len(o.L) != 1 {
			return false
		}
	}
	return bare.S == "" && bare.Room == 0 && bare.Fn == 0
}

func (w *world) pairsMayBe(l []api.Val) bool {
	if len(l)%2 == 1 || len(l) > 131072 {
		return false
	}
	for i := 0; i < len(l); i += 2 {
		for j := 0; j < i; j += 2 {
			a, b := l[i], l[j]
			if a == b || a.Kind == api.Text && b.Kind == api.Text && w.Store[a.N-1].S == w.Store[b.N-1].S {
				return false
			}
		}
	}
	return true
}

// dice is a row of numbers that hangs on its start alone.
type dice uint64

func (d *dice) below(n int) int {
	*d = *d*6364136223846793005 + 1442695040888963407
	return int(uint64(*d) >> 33 % uint64(n))
}

// store: of some objects, most of them as they may be; wild: how seldom there is one that may not.
func (d *dice) store(wild int) api.Store {
	s := make(api.Store, d.below(12))
	for i := range s {
		s[i].Kind = api.Text + api.Kind(d.below(5))
	}
	for i := range s {
		d.fill(s, &s[i])
		if d.below(wild) == 0 {
			d.spoil(s, &s[i])
		}
	}
	return s
}

// fill: an object of its kind that may be.
func (d *dice) fill(s api.Store, o *api.Obj) {
	switch o.Kind {
	case api.Text:
		o.S = strings.Repeat([]string{"", "a", "b", "ab, "}[d.below(4)], 1+d.below(3))
		if d.below(40) == 0 {
			o.S = strings.Repeat("x", api.MaxText-d.below(60))
		}
	case api.Func:
		o.Fn = d.below(256)
		for i := range s {
			if s[i].Kind == api.Cell && d.below(2) == 0 {
				o.L = append(o.L, cell(int64(i)+1))
			}
		}
	case api.Cell:
		o.L = []api.Val{d.held(s)}
	case api.List:
		for range d.below(4) {
			o.L = append(o.L, d.held(s))
		}
		o.Room = len(o.L) + d.below(3)
	case api.Map:
		for range 2 * d.below(3) {
			o.L = append(o.L, d.held(s))
		}
		o.Room = len(o.L) + d.below(3)
	}
}

// held: a value that is no cell.
func (d *dice) held(s api.Store) api.Val {
	for range 5 {
		if len(s) == 0 || d.below(3) == 0 {
			break
		}
		n := d.below(len(s))
		if s[n].Kind != api.Cell {
			return val(s[n].Kind, int64(n)+1)
		}
	}
	return []api.Val{none, no, yes, num(0), num(1), num(-1), num(12345678901)}[d.below(7)]
}

// any: a value that may not be, as often as not.
func (d *dice) any(s api.Store) api.Val {
	n := d.below(len(s)+3) - 1
	if n >= 1 && n <= len(s) && d.below(3) > 0 {
		return val(s[n-1].Kind, int64(n))
	}
	return val(api.Kind(d.below(10)), int64(n))
}

// spoil: an object that may not be any more, mostly.
func (d *dice) spoil(s api.Store, o *api.Obj) {
	switch d.below(9) {
	case 0:
		o.Kind = api.Kind(d.below(10))
	case 1:
		o.S += "x"
	case 2:
		o.Room = d.below(5) - 2
	case 3:
		o.Room = 4*api.MaxItems + d.below(2)
	case 4:
		o.Fn = d.below(5)*api.MaxFns/2 - 1
	case 5:
		o.L = append(o.L, o.L...)
	case 6:
		o.L = o.L[:d.below(len(o.L)+1)]
	default:
		o.L = append(o.L, d.any(s))
	}
}

// shuffled: the same objects in another order, and their values as they are there; what leads nowhere still does.
func (d *dice) shuffled(s api.Store) (api.Store, func(v api.Val) api.Val) {
	order := make([]int, len(s))
	for i := range order {
		j := d.below(i + 1)
		order[i] = order[j]
		order[j] = i
	}
	moved := func(v api.Val) api.Val {
		switch {
		case look(s).leads(v):
			v.N = int64(order[v.N-1]) + 1
		case v.Kind > api.Int:
			v.N = 0
		}
		return v
	}
	r := make(api.Store, len(s))
	for i, o := range copyOf(s) {
		for k, v := range o.L {
			o.L[k] = moved(v)
		}
		r[order[i]] = o
	}
	return r, moved
}

// sameAll holds every call of a value against what is worked out here.
func sameAll(t *testing.T, s api.Store, v api.Val) {
	t.Helper()
	w := look(s)
	if want := w.text(v, 0); len(want) > 4096 {
		wantLong(t, s, v)
	} else {
		wantText(t, s, v, want)
	}
	wantCheck(t, s, v, w.check(v))
	wantWords(t, s, w.words([]api.Val{v}), v)
}

// P4.1 to P4.4, over stores of any objects.
func TestFollows(t *testing.T) {
	counts := map[bool]int{}
	long := 0
	for seed := range 6000 {
		d := dice(seed)
		s := d.store(1 + seed%40)
		other, moved := d.shuffled(s)
		for range 3 {
			v := d.any(s)
			sameAll(t, s, v)
			sameAll(t, other, moved(v))
			a, ok := show.Text(s, v)
			if b, same := show.Text(other, moved(v)); a != b || ok != same {
				t.Errorf("Text(%s, %v) = %s, in another order %s", brief(s), v, brief(a), brief(b))
			}
			if !ok {
				long++
			}
			counts[show.Check(s, v)]++
		}
		together(t, s, &d)
		if t.Failed() {
			t.Fatalf("start %d", seed)
		}
	}
	if counts[true] < 2000 || counts[false] < 2000 || long < 100 {
		t.Errorf("too few of a sort: %v, %d", counts, long)
	}
}

// together: P4.4, words of roots together against those of each.
func together(t *testing.T, s api.Store, d *dice) {
	t.Helper()
	var roots []api.Val
	sum, most := 0, 0
	for range d.below(5) {
		v := d.any(s)
		n := show.Words(s, []api.Val{v})
		roots = append(roots, v)
		sum, most = sum+n, max(most, n)
	}
	wantWords(t, s, look(s).words(roots), roots...)
	if n := show.Words(s, roots); n > sum || n < most {
		t.Errorf("Words(%s, %v) = %d, added %d, the most %d", brief(s), roots, n, sum, most)
	}
}
