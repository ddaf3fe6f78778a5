package heaped_test

import (
	"slices"
	"strings"
	"testing"

	"gearbox/api"
	"gearbox/heaped"
	"gearbox/machine"
	"gearbox/samples"
	"gearbox/space"
)

// side is a ground with the values that are kept of it.
type side struct {
	machine.Ground
	roots []api.Val
}

// operation: anything that can be done with values of a ground, told by their places among the roots, or by themselves.
type operation func(s *side, v func(i int) api.Val) machine.Did

// do: an operation, once more where there was no room for it at first.
func (s *side) do(o operation, picks []api.Val) machine.Did {
	v := func(i int) api.Val {
		if p := picks[i]; p.Kind != api.Items {
			return p
		} else {
			return s.roots[p.N]
		}
	}
	did := o(s, v)
	if did.Full {
		s.roots, _ = s.Collect(s.roots, nil)
		did = o(s, v)
	}
	return did
}

// operations: all of them.
func operations(d *samples.Dice) []operation {
	n, text := d.Below(4), d.Of("", "a", "12345678", "123456789", strings.Repeat("x", api.MaxText/2), strings.Repeat("x", api.MaxText+1))
	op := api.Bin(d.Below(11))
	some := func(v func(i int) api.Val, n int) (l []api.Val) {
		for i := range n {
			l = append(l, v(i))
		}
		return l
	}
	return []operation{
		func(s *side, v func(int) api.Val) machine.Did { return s.Text(text) },
		func(s *side, v func(int) api.Val) machine.Did { return s.List(some(v, n)) },
		func(s *side, v func(int) api.Val) machine.Did { return s.Map(some(v, 2*(n/2))) },
		func(s *side, v func(int) api.Val) machine.Did { return s.Cell(v(0)) },
		func(s *side, v func(int) api.Val) machine.Did { return s.Fn(n, some(v, n)) },
		func(s *side, v func(int) api.Val) machine.Did { return s.Bin(op, v(0), v(1)) },
		func(s *side, v func(int) api.Val) machine.Did { return s.Len(v(0)) },
		func(s *side, v func(int) api.Val) machine.Did { return s.Show(v(0)) },
		func(s *side, v func(int) api.Val) machine.Did { return s.Get(v(0), v(1)) },
		func(s *side, v func(int) api.Val) machine.Did { return s.Put(v(0), v(1), v(2)) },
		func(s *side, v func(int) api.Val) machine.Did { return s.Put(v(0), s.Len(v(0)).Val, v(2)) },
		func(s *side, v func(int) api.Val) machine.Did { return s.Load(v(0)) },
		func(s *side, v func(int) api.Val) machine.Did { return s.Store(v(0), v(1)) },
		func(s *side, v func(int) api.Val) machine.Did {
			if f := v(0); f.Kind == api.Func && n < s.Which(f) {
				return machine.Did{Val: s.CellOf(f, n)} // a Func of n is over n cells
			}
			return machine.Did{}
		},
	}
}

// picks: values, or places of roots (as of the kind Items, which no value has).
func picks(d *samples.Dice, roots int) []api.Val {
	var l []api.Val
	for range 4 {
		switch {
		case roots > 0 && d.Below(4) > 0:
			l = append(l, api.Val{Kind: api.Items, N: int64(d.Below(roots))})
		case d.Below(4) > 0:
			l = append(l, api.Val{Kind: api.Int, N: int64(d.Below(4)) - 1})
		default:
			l = append(l, api.Val{Kind: api.Kind(d.Below(2))})
		}
	}
	return l
}

// A heap does what plain values do, whatever is done with them: it throws the same, has room for the same, tells the same; also where it is collected in between.
func TestGroundsAlike(t *testing.T) {
	full, thrown, done := 0, 0, 0
	for seed := range 800 {
		d := samples.Dice(seed)
		room := 1 + d.Below(300)
		if seed%4 == 0 {
			room = 3000
		}
		a, b := &side{Ground: space.New(room)}, &side{Ground: heaped.New(room)}
		for range 150 {
			p := picks(&d, len(a.roots))
			l := operations(&d)
			o := l[d.Below(len(l))]
			x, y := a.do(o, p), b.do(o, p)
			if x.Thrown != y.Thrown || x.Full != y.Full || x.Val.Kind != y.Val.Kind || x.Val.Kind < api.Text && x.Val != y.Val {
				t.Fatalf("%d: %v, want %v", seed, y, x)
			}
			switch {
			case x.Full:
				full++
				continue
			case x.Thrown != "":
				thrown++
				continue
			}
			done++
			a.roots, b.roots = append(a.roots, x.Val), append(b.roots, y.Val)
			for len(a.roots) > 12 {
				i := d.Below(len(a.roots))
				a.roots, b.roots = slices.Delete(a.roots, i, i+1), slices.Delete(b.roots, i, i+1)
			}
			if d.Below(5) == 0 {
				b.roots, _ = b.Collect(b.roots, nil)
			}
			alike(t, a, b)
		}
	}
	if full < 1000 || thrown < 1000 || done < 1000 {
		t.Error(full, thrown, done)
	}
}

// alike: do the values that are kept tell the same, and lead to as many words?
func alike(t *testing.T, a, b *side) {
	t.Helper()
	if x, y := a.Reached(a.roots), b.Reached(b.roots); x != y {
		t.Fatalf("%d words, want %d", y, x)
	}
	for i, v := range a.roots {
		x, thrown := a.Told(v)
		y, also := b.Told(b.roots[i])
		if x != y || thrown != also {
			t.Fatalf("%q %q, want %q %q", y, also, x, thrown)
		}
		for j := range i { // the same ones are the same, as far as that can be asked
			if x, y := a.Bin(api.Same, v, a.roots[j]), b.Bin(api.Same, b.roots[i], b.roots[j]); x != y {
				t.Fatalf("%v, want %v", y, x)
			}
		}
	}
}

// No operation collects; where one finds no room it changes nothing.
func TestFull(t *testing.T) {
	g := heaped.New(9)
	a := g.Text("a").Val
	l := g.List(nil).Val
	one := api.Val{Kind: api.Int, N: 1}
	g.Text("b")
	for _, did := range []machine.Did{g.Text("c"), g.List(nil), g.Map(nil), g.Cell(a), g.Fn(0, nil), g.Bin(api.Add, a, a), g.Show(one), g.Get(a, api.Val{Kind: api.Int}), g.Put(l, api.Val{Kind: api.Int}, a)} {
		if did != (machine.Did{Full: true}) {
			t.Error(did)
		}
	}
	if g.Reached([]api.Val{a, l}) != 6 || g.Len(l).Val.N != 0 {
		t.Error(g.Reached([]api.Val{a, l}))
	}
	roots, _ := g.Collect([]api.Val{l, a, one}, nil)
	if did := g.Text("c"); did.Full || roots[2] != one {
		t.Error(did, roots)
	}
	if s, _ := g.Told(roots[1]); s != "a" {
		t.Error(s)
	}
}

// What the run holds beside its roots is moved with what the roots lead to, and nil, if that does not have it.
func TestBeside(t *testing.T) {
	g := heaped.New(40)
	one, yes := api.Val{Kind: api.Int, N: 1}, api.Val{Kind: api.Bool, N: 1}
	g.Text("gone")
	a, b := g.Text("a").Val, g.Text("b").Val
	g.Text("gone")
	l := g.List([]api.Val{a, one}).Val
	roots, others := g.Collect([]api.Val{one, l, yes}, []api.Val{one, b, a, {}, l, b, yes})
	told := func(v api.Val) string {
		s, _ := g.Told(v)
		return s
	}
	var got []string
	for _, v := range slices.Concat(roots, others) {
		got = append(got, told(v))
	}
	if s := strings.Join(got, " "); s != "1 [a, 1] yes 1 nil a nil [a, 1] nil yes" {
		t.Error(s)
	}
	if roots[1] != others[4] || g.Get(roots[1], api.Val{Kind: api.Int}).Val != others[2] || g.Reached(roots) != 3+8 {
		t.Error(roots, others)
	}
	// there is nothing in the heap but what the roots lead to
	if did := g.List(slices.Repeat([]api.Val{one}, (40-11-4)/2)); did.Full {
		t.Error(did)
	}
	// no roots, and others that are no objects at all: a place that is one's number is no object
	roots, others = g.Collect(nil, []api.Val{{Kind: api.Int}, {Kind: api.Int, N: 3}})
	if len(roots) != 0 || !slices.Equal(others, []api.Val{{Kind: api.Int}, {Kind: api.Int, N: 3}}) {
		t.Error(roots, others)
	}
	a = g.Text("a").Val
	if roots, others = g.Collect(nil, []api.Val{a, {Kind: api.Int, N: 7}}); len(roots) != 0 || !slices.Equal(others, []api.Val{{}, {Kind: api.Int, N: 7}}) {
		t.Error(roots, others)
	}
}
