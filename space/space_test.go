package space_test

import (
	"slices"
	"strings"
	"testing"

	"gearbox/api"
	"gearbox/machine"
	"gearbox/plain"
	"gearbox/samples"
	"gearbox/show"
	"gearbox/space"
)

// desk is a space with its roots, and a store in which what they lead to is known.
type desk struct {
	*space.Space
	roots []api.Val
}

func newDesk(room int) *desk { return &desk{Space: space.New(room)} }

// do: an operation, once more where there was no room for it at first.
func (d *desk) do(operation func() machine.Did) machine.Did {
	did := operation()
	if did.Full {
		if d.Crammed() {
			d.roots, _ = d.Collect(d.roots, nil)
		}
		again(d.Space, d.roots...)
		did = operation()
	}
	return did
}

// again: the operation that is done next found no room.
func again(s *space.Space, roots ...api.Val) { s.Again(func() []api.Val { return roots }) }

// comes: what an operation comes to, that there is room for, or none for.
func (d *desk) comes(t *testing.T, room bool, operation func() machine.Did) api.Val {
	t.Helper()
	did := d.do(operation)
	if did.Full == room || did.Thrown != "" {
		t.Fatalf("%v", did)
	}
	return did.Val
}

// text: a new one is made, or there is no room for it.
func (d *desk) text(t *testing.T, room bool, s string) api.Val {
	t.Helper()
	return d.comes(t, room, func() machine.Did { return d.Text(s) })
}

// wantTold: the roots as texts.
func (d *desk) wantTold(t *testing.T, words int, want ...string) {
	t.Helper()
	var l []string
	for _, v := range d.roots {
		s, thrown := d.Told(v)
		l = append(l, s+thrown)
	}
	if n := d.Reached(d.roots); n != words || !slices.Equal(l, want) {
		t.Errorf("%d words, %q", n, l)
	}
}

func whole(n int64) api.Val { return api.Val{Kind: api.Int, N: n} }

// What no root leads to gives its room to others, when it is collected.
func TestRoomAgain(t *testing.T) {
	d := newDesk(9)
	a := d.text(t, true, "a")
	d.roots = []api.Val{a}
	d.text(t, true, "b")
	d.text(t, true, "c")
	if did := d.Text("d"); !did.Full {
		t.Error(did)
	}
	d.roots = append(d.roots, d.text(t, true, "d"))
	d.wantTold(t, 6, "a", "d")
	d.text(t, false, "123456789")
	d.text(t, true, "12345678")
	d.roots = nil
	d.comes(t, true, func() machine.Did { return d.List([]api.Val{whole(1), whole(1)}) })
	d.wantTold(t, 0)
}

// A List that grows has other words: those of its new Room in place of those of the old one.
func TestGrows(t *testing.T) {
	d := newDesk(6 + 9)
	l := d.List([]api.Val{whole(1)}).Val
	d.roots = []api.Val{l}
	d.comes(t, true, func() machine.Did { return d.Put(l, whole(1), api.Val{}) }) // Room 4, 12 words
	d.wantTold(t, 12, "[1, nil]")
	d.comes(t, true, func() machine.Did { return d.Put(l, whole(2), whole(5)) }) // asks for none
	d.text(t, true, "abc")
	d.text(t, true, "12345678")
	d.text(t, false, "123456789")
	d.wantTold(t, 12, "[1, nil, 5]")
}

// An operation for which there is no room changes nothing.
func TestNoRoom(t *testing.T) {
	d := newDesk(11)
	l := d.List(nil).Val
	d.roots = []api.Val{l}
	d.comes(t, false, func() machine.Did { return d.Put(l, whole(0), whole(1)) })
	d.wantTold(t, 3, "[]")
	d.comes(t, true, func() machine.Did { return d.List([]api.Val{whole(1), whole(2)}) })
}

// An object has values of its own: what a list was made of may be changed.
func TestValuesOfItsOwn(t *testing.T) {
	d := newDesk(100)
	l := []api.Val{whole(1), whole(1)}
	d.roots = []api.Val{d.List(l).Val}
	l[0] = api.Val{}
	d.wantTold(t, 8, "[1, 1]")
}

// A Func tells which function it is of, and its cells.
func TestFunc(t *testing.T) {
	d := newDesk(100)
	a, b := d.Cell(whole(1)).Val, d.Cell(whole(2)).Val
	f := d.Fn(7, []api.Val{a, b, a}).Val
	if d.Which(f) != 7 || d.CellOf(f, 0) != a || d.CellOf(f, 1) != b || d.CellOf(f, 2) != a {
		t.Error(f, d.Which(f))
	}
	d.Store(b, whole(5))
	if did := d.Load(d.CellOf(f, 1)); did.Val != whole(5) {
		t.Error(did)
	}
}

// What the run holds beside its roots is kept, and takes no room in the operation that is done next, when it is done again; in all others it does.
func TestBeside(t *testing.T) {
	s := space.New(9)
	a, b, c := s.Text("a").Val, s.Text("b").Val, s.Text("c").Val
	full := func(is bool) {
		t.Helper()
		if did := s.Text("d"); did.Full != is || did.Thrown != "" {
			t.Error(did)
		}
	}
	full(true)
	roots, others := s.Collect([]api.Val{a}, []api.Val{whole(1), b, {}, c})
	if !slices.Equal(roots, []api.Val{a}) || !slices.Equal(others, []api.Val{whole(1), b, {}, c}) {
		t.Error(roots, others)
	}
	full(true) // not again
	again(s, a)
	full(false)
	full(true)
	again(s, a)
	if did := s.Len(b); did.Val != whole(1) {
		t.Error(did)
	}
	full(true) // another one was done meanwhile
	for v, want := range map[api.Val]string{a: "a", b: "b", c: "c"} {
		if text, _ := s.Told(v); text != want {
			t.Error(text, want)
		}
	}
	if n := s.Reached([]api.Val{a}); n != 3 {
		t.Error(n)
	}
	again(s, a, b, a, c) // now all are roots
	full(true)
	s.Collect([]api.Val{a}, []api.Val{a, whole(9)}) // what a root leads to is beside nothing
	full(false)
	full(false)
	full(true)
	again(s, a)
	full(false)
}

// A collection is wanted at first, and then where there is as much more as the last one went through, and the room; not for each word that is beside.
func TestCrammed(t *testing.T) {
	s := space.New(10)
	for range 3 {
		if !s.Crammed() {
			t.Error("not crammed")
		}
		s.Collect(nil, nil)
		a, b, c := s.Text("a").Val, s.Text("b").Val, s.Text("c").Val
		s.Collect([]api.Val{a}, []api.Val{b, c})
		for used := 9; used < 2*9+10+3; used += 3 {
			if s.Crammed() {
				t.Error(used)
			}
			again(s, a)
			s.Text("d")
		}
	}
}

// What others lead to is beside, however deep; of what the roots lead to, too, nothing.
func TestBesideDeep(t *testing.T) {
	s := space.New(14)
	a := s.Text("a").Val
	l := s.List([]api.Val{a, a}).Val // 8 words
	m := s.Cell(l).Val
	s.Collect([]api.Val{a}, []api.Val{m}) // 3 are counted, 11 beside
	again(s, a)
	if did := s.Text(strings.Repeat("12345678", 10)); !did.Full { // 12 words
		t.Error(did)
	}
	again(s, a)
	if did := s.Text(strings.Repeat("12345678", 9)); did.Full {
		t.Error(did)
	}
	if text, _ := s.Told(l); text != "[a, a]" {
		t.Error(text)
	}
}

// What asks for no words is done, whatever room there is.
func TestAsksNothing(t *testing.T) {
	s := space.New(6)
	a, b := s.Text("a").Val, s.Text("b").Val
	s.Collect(nil, []api.Val{a, b})
	again(s)
	c := s.Cell(a).Val // 9 words in all
	if did := s.Store(c, b); did.Full || did.Thrown != "" {
		t.Error(did)
	}
	if did := s.Load(c); did.Val != b {
		t.Error(did)
	}
	if did := s.Bin(api.Less, a, b); did.Full || did.Val.N != 1 {
		t.Error(did)
	}
}

// store: what the space should have is kept beside it, in a store that only grows and in which nothing takes room.
type store struct {
	objects api.Store
	of      map[api.Val]api.Val // what stands in it for a value of the space
}

func (s *store) value(v api.Val) api.Val {
	if v.Kind < api.Text {
		return v
	}
	return s.of[v]
}

func (s *store) values(l []api.Val) []api.Val {
	var r []api.Val
	for _, v := range l {
		r = append(r, s.value(v))
	}
	return r
}

// did: a deed is done there; what came of it in the space is known by that.
func (s *store) did(d plain.Deed, v api.Val) {
	if d.New.Kind != api.Nil {
		d.New.L = slices.Clone(d.New.L)
		s.objects = append(s.objects, d.New)
		s.of[v] = api.Val{Kind: d.New.Kind, N: int64(len(s.objects))}
		return
	}
	d.Change.On(s.objects)
}

// step: anything that can be done with the roots: in the space, and worked out in the store beside it.
func (d *desk) step(dice *samples.Dice, s *store) (func() machine.Did, plain.Deed) {
	any := func() api.Val {
		if len(d.roots) == 0 || dice.Below(4) == 0 {
			return whole(int64(dice.Below(3)))
		}
		return d.roots[dice.Below(len(d.roots))]
	}
	a, b, c, e := any(), any(), any(), any()
	l := []api.Val{a, b, c, e}
	switch dice.Below(7) {
	case 0:
		return func() machine.Did { return d.List(l) }, plain.List(s.values(l))
	case 1:
		return func() machine.Did { return d.Map(l) }, plain.Map(s.objects, s.values(l))
	case 2:
		return func() machine.Did { return d.Cell(a) }, plain.Cell(s.value(a))
	case 3:
		return func() machine.Did { return d.Store(a, b) }, plain.CellStore(s.objects, s.value(a), s.value(b))
	case 4:
		return func() machine.Did { return d.Show(a) }, plain.Show(s.objects, s.value(a))
	case 5:
		return func() machine.Did { return d.Fn(1, l[:2]) }, plain.Fn(1, s.values(l[:2]))
	}
	return func() machine.Did { return d.Put(a, b, c) }, plain.Put(s.objects, s.value(a), s.value(b), s.value(c))
}

// There is room just if the words of the roots, and those that are asked for, are at most the room; whatever was done ahead, what the roots lead to is there.
func TestAsked(t *testing.T) {
	refused, thrown := 0, 0
	for seed := range 300 {
		dice := samples.Dice(seed)
		room := 20 + dice.Below(200)
		d, s := newDesk(room), &store{of: map[api.Val]api.Val{}}
		for range 200 {
			operation, deed := d.step(&dice, s)
			words := show.Words(s.objects, s.values(d.roots))
			did := d.do(operation)
			switch {
			case did.Thrown != deed.Thrown || did.Full != (deed.Thrown == "" && words+deed.Words > room):
				t.Fatalf("%d: %v, want %v in %d of %d", seed, did, deed, words, room)
			case did.Full:
				refused++
				continue
			case did.Thrown != "":
				thrown++
				continue
			}
			s.did(deed, did.Val)
			if d.roots = append(d.roots, did.Val); len(d.roots) > 6 {
				d.roots = slices.Delete(d.roots, 0, 1+dice.Below(4))
			}
			d.alike(t, s)
		}
	}
	if refused < 1000 || thrown < 1000 {
		t.Error(refused, thrown)
	}
}

// alike: the roots are what stands for them in the store.
func (d *desk) alike(t *testing.T, s *store) {
	t.Helper()
	if n, want := d.Reached(d.roots), show.Words(s.objects, s.values(d.roots)); n != want {
		t.Fatalf("%d words, want %d", n, want)
	}
	for _, v := range d.roots {
		got, thrown := d.Told(v)
		want, wantThrown := plain.Told(s.objects, s.value(v))
		if got != want || thrown != wantThrown {
			t.Fatalf("%q %q, want %q %q", got, thrown, want, wantThrown)
		}
	}
}
