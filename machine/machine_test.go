package machine_test

import (
	"slices"
	"testing"

	"gearbox/api"
	"gearbox/gen"
	"gearbox/heaped"
	"gearbox/machine"
	"gearbox/space"
)

// counted is a ground whose collections are counted.
type counted struct {
	machine.Ground
	collected int
	roots     []api.Val // of the last one
}

func (c *counted) Collect(roots, others []api.Val) (movedRoots, movedOthers []api.Val) {
	c.collected++
	c.roots = slices.Clone(roots)
	return c.Ground.Collect(roots, others)
}

// grounds: one of each kind.
func grounds(room int) []*counted {
	return []*counted{{Ground: space.New(room)}, {Ground: heaped.New(room)}}
}

func of(t *testing.T, text string) api.Program {
	t.Helper()
	p, _, e := gen.Of(text)
	if e != api.OK {
		t.Fatal(text, e)
	}
	return p
}

// At each point that is done, and at no other place, something is done: also where the call throws then; not where there is no fuel.
func TestAtPoint(t *testing.T) {
	for text, points := range map[string]int{
		``:                                                    0,
		`print 1; [1, {2: 3}]; throw 1;`:                      0,
		`var i = 0; while i < 3 { i = i + 1; }`:               3,
		`var f = fn() { return 1; }; f(); f();`:               2,
		`try { 5(); } catch e { } fn(a) { }();`:               2,
		`var f = fn(n) { f(n); }; try { f(1); } catch e { }`:  128,
		`var f = fn() { return f(); }; while yes { f(); }`:    128,
		`while yes { }`:                                       200,
		`var i = 0; while i < 300 { i = i + 1; fn() { }(); }`: 200,
	} {
		for _, g := range grounds(api.MaxWords) {
			m := machine.New(of(t, text), g, 200)
			n := 0
			m.AtPoint(func() { n++ })
			if o := m.Run(); n != points || o.Fuel != 200-points || g.collected != 0 {
				t.Errorf("%s: %d points, %v, %d", text, n, o, g.collected)
			}
		}
	}
}

// It is done ahead of what the point does: what a call takes is still there, and the frame that it begins is not.
func TestAheadOfPoint(t *testing.T) {
	for _, g := range grounds(1000) {
		p := of(t, `var f = fn(a, b) { a = b; return a; }; f("called", 7); f = nil;`)
		m := machine.New(p, g, 9)
		m.AtPoint(m.Collect)
		if o := m.Run(); o.End != api.EndDone || g.collected != 1 {
			t.Fatal(o, g.collected)
		}
		var kinds []api.Kind
		for _, v := range g.roots {
			kinds = append(kinds, v.Kind)
		}
		slices.Sort(kinds)
		want := []api.Kind{api.Nil, api.Nil, api.Int, api.Text, api.Func, api.Func} // what was thrown and the main frame's Func, 7, the text, and f, as local and as what is called
		if !slices.Equal(kinds, want) {
			t.Error(g.roots)
		}
	}
}

// A heap is collected where there is no room for what an instruction asks for, and nowhere else; a space not as often.
func TestCollectedForRoom(t *testing.T) {
	p := of(t, `var i = 0; while i < 10 { i = i + 1; "a"; }`)
	for room, times := range map[int]int{3: 9, 5: 9, 6: 4, 9: 3, 15: 1, 29: 1, 30: 0} {
		for _, g := range grounds(room) {
			least := times
			if _, is := g.Ground.(*space.Space); is {
				least = min(times, 1)
			}
			if o := machine.New(p, g, 100).Run(); o.End != api.EndDone || g.collected < least || g.collected > times {
				t.Errorf("room %d: %v, %d collections", room, o, g.collected)
			}
		}
	}
	for _, g := range grounds(2) {
		if o := machine.New(p, g, 100).Run(); o.End != api.EndRoom || g.collected != 1 {
			t.Error(o, g.collected)
		}
	}
}

// Check: the errors of a run that there may not be.
func TestCheck(t *testing.T) {
	p := of(t, `print 1;`)
	for _, c := range []struct {
		p          api.Program
		room, fuel int
		want       api.Errno
	}{
		{p, 1, 0, api.OK}, {p, api.MaxWords, api.MaxFuel, api.OK},
		{p, 0, 0, api.ErrArg}, {p, api.MaxWords + 1, 0, api.ErrArg}, {p, 1, -1, api.ErrArg}, {p, 1, api.MaxFuel + 1, api.ErrArg},
		{nil, 1, 0, api.ErrForm}, {nil, 0, 0, api.ErrArg},
	} {
		if e := machine.Check(c.p, c.room, c.fuel); e != c.want {
			t.Error(c, e)
		}
	}
}

// Told: each act in its turn, and nothing behind the last one.
func TestTold(t *testing.T) {
	acts := []api.ActKind{api.ActCollect, api.ActNone, api.ActFast, 200}
	next, other := machine.Told(acts), machine.Told(acts)
	for _, want := range append(slices.Clone(acts), 0, 0, 0) {
		if a := next(); a != want {
			t.Error(a, want)
		}
	}
	if other() != api.ActCollect || machine.Told(nil)() != api.ActNone {
		t.Error("two share what they count")
	}
}
