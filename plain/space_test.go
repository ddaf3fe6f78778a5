package plain_test

import (
	"slices"
	"testing"

	"gearbox/api"
	"gearbox/plain"
	"gearbox/samples"
	"gearbox/show"
)

// desk is a space with its roots.
type desk struct {
	*plain.Space
	roots []api.Val
}

func newDesk(room int) *desk {
	d := &desk{}
	d.Space = plain.NewSpace(room, func(yield func(api.Val) bool) { slices.Values(d.roots)(yield) })
	return d
}

// do: a deed that there is room for, or none for.
func (d *desk) do(t *testing.T, deed plain.Deed, room bool) api.Val {
	t.Helper()
	v, ok := d.Do(deed)
	if ok != room || deed.Thrown != "" {
		t.Fatalf("%v: %v", deed, ok)
	}
	return v
}

var (
	one  = api.Val{Kind: api.Int, N: 1}
	none = api.Val{}
)

// What no root leads to gives its room, and its number, to others.
func TestRoomAgain(t *testing.T) {
	d := newDesk(9)
	a := d.do(t, plain.Text("a"), true)
	d.roots = []api.Val{a}
	d.do(t, plain.Text("b"), true)
	d.do(t, plain.Text("c"), true)
	c := d.do(t, plain.Text("d"), true) // b goes, and c
	d.roots = []api.Val{a, c}
	if s := d.Objects(); s[a.N-1].S != "a" || s[c.N-1].S != "d" || len(s) != 3 || d.Reached() != 6 {
		t.Error(s)
	}
	d.do(t, plain.Text("123456789"), false)
	d.do(t, plain.Text("12345678"), true)
	d.roots = nil
	d.do(t, plain.List([]api.Val{one, one}), true)
	if d.Reached() != 0 {
		t.Error(d.Reached())
	}
}

// A List that grows has other words: those of its new Room in place of those of the old one.
func TestGrows(t *testing.T) {
	d := newDesk(6 + 9)
	l := d.do(t, plain.List([]api.Val{one}), true)
	d.roots = []api.Val{l}
	d.do(t, plain.Put(d.Objects(), l, one, none), true) // Room 4, 12 words
	if d.Reached() != 12 {
		t.Error(d.Reached())
	}
	d.do(t, plain.Put(d.Objects(), l, api.Val{Kind: api.Int, N: 2}, l), true) // asks for none
	d.do(t, plain.Text("abc"), true)
	d.do(t, plain.Text("12345678"), true)
	d.do(t, plain.Text("123456789"), false)
	o := d.Objects()[l.N-1]
	if !slices.Equal(o.L, []api.Val{one, none, l}) || o.Room != 4 {
		t.Error(o)
	}
}

// A deed for which there is no room changes nothing.
func TestNoRoom(t *testing.T) {
	d := newDesk(11)
	l := d.do(t, plain.List(nil), true)
	d.roots = []api.Val{l}
	d.do(t, plain.Put(d.Objects(), l, api.Val{Kind: api.Int}, one), false)
	if o := d.Objects()[l.N-1]; len(o.L) != 0 || o.Room != 0 || d.Reached() != 3 {
		t.Error(o)
	}
}

// An object has values of its own: what a list was made of may be changed.
func TestValuesOfItsOwn(t *testing.T) {
	d := newDesk(100)
	l := []api.Val{one, one}
	v := d.do(t, plain.List(l), true)
	l[0] = none
	if o := d.Objects()[v.N-1]; o.L[0] != one {
		t.Error(o)
	}
}

// step: anything that can be done with the roots.
func (d *desk) step(dice *samples.Dice) plain.Deed {
	any := func() api.Val {
		if len(d.roots) == 0 || dice.Below(4) == 0 {
			return api.Val{Kind: api.Int, N: int64(dice.Below(3))}
		}
		return d.roots[dice.Below(len(d.roots))]
	}
	switch dice.Below(7) {
	case 0:
		return plain.List([]api.Val{any(), any()})
	case 1:
		return plain.Map(d.Objects(), []api.Val{any(), any(), any(), any()})
	case 2:
		return plain.Cell(any())
	case 3:
		return plain.CellStore(d.Objects(), any(), any())
	case 4:
		return plain.Show(d.Objects(), any())
	case 5:
		return plain.Fn(1, []api.Val{any(), any()})
	}
	return plain.Put(d.Objects(), any(), any(), any())
}

// There is room just if the words of the roots, and those that are asked for, are at most the room; whatever was done ahead, what the roots lead to stays.
func TestAsked(t *testing.T) {
	refused := 0
	for seed := range 300 {
		dice := samples.Dice(seed)
		room := 20 + dice.Below(200)
		d := newDesk(room)
		for range 200 {
			deed := d.step(&dice)
			if deed.Thrown != "" {
				continue
			}
			words := show.Words(d.Objects(), d.roots)
			texts := d.texts()
			v, ok := d.Do(deed)
			if ok != (deed.Words == 0 || words+deed.Words <= room) {
				t.Fatalf("%d: %d words and %d, room %d: %v", seed, words, deed.Words, room, ok)
			}
			if deed.Change.Of == 0 && !slices.Equal(texts, d.texts()) {
				t.Fatalf("%d: %q, and then %q", seed, texts, d.texts())
			}
			if !ok {
				refused++
				continue
			}
			if d.roots = append(d.roots, v); len(d.roots) > 6 {
				d.roots = slices.Delete(d.roots, 0, 1+dice.Below(4))
			}
			if !d.sound() || dice.Below(8) == 0 && d.Reached() != show.Words(d.Objects(), d.roots) {
				t.Fatalf("%d: %v", seed, d.Objects())
			}
		}
	}
	if refused < 1000 {
		t.Error(refused)
	}
}

// texts: the roots as texts.
func (d *desk) texts() []string {
	var l []string
	for _, v := range d.roots {
		s, _ := show.Text(d.Objects(), v)
		l = append(l, s)
	}
	return l
}

// sound: may all roots be?
func (d *desk) sound() bool {
	return !slices.ContainsFunc(d.roots, func(v api.Val) bool { return !show.Check(d.Objects(), v) })
}
