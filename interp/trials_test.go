package interp_test

import (
	"testing"

	"gearbox/api"
	"gearbox/interp"
	"gearbox/samples"
	"gearbox/trials"
)

// P13.1, P13.2: what is written down by hand of each instruction, of what is thrown and caught, of calls, points and room; with acts of every form.
func TestTrials(t *testing.T) {
	t.Parallel()
	d := samples.Dice(0)
	for _, c := range trials.All() {
		points := min(c.Fuel, 600)
		for _, acts := range allActs(&d, points) {
			o, e := interp.Run(c.Program, c.Room, c.Fuel, acts)
			if e != api.OK || !c.Meets(o) {
				t.Fatalf("%s: %s, room %d, fuel %d, acts %.300v:\n%s, %d, want\n%s", c.Name, brief(c.Program), c.Room, c.Fuel, acts, brief(o), e, brief(c.Want))
			}
		}
		alike(t, c.Program, c.Room, c.Fuel, nil, every(points))
	}
}

// P13.1: each room, from one word on to more than enough: so the heap is full at each instruction that asks for words, in its turn.
func TestEachRoom(t *testing.T) {
	t.Parallel()
	for _, text := range []string{
		`var a = "x" + "y"; var b = [a, [a, "z"], {a: [1]}]; b[3] = $b; b[1][2] = b[0]; print b; print #b[2]; throw b;`,
		`var l = []; var i = 0; while i < 9 { l[i] = [i, $i]; i = i + 1; } print l;`,
		`var m = {}; var i = 0; while i < 9 { m["k" + $i] = {i: m}; i = i + 1; } print #m; print m["k" + "3"];`,
		`var up = fn(n) { var s = "s" + $n; return fn(x) { s = s + x; return [s, x]; }; }; var f = up(1); var g = up(2); print [f("a"), g("b"), f("c")]; print f;`,
		`var f = fn(n) { if n == 0 { throw ["deep" + "er", n]; } try { return [n, f(n - 1)]; } catch e { throw [e, $n]; } }; try { f(4); } catch e { print e; } print 1 / 0;`,
		`var f = fn(a, b) { return [b, a, "c" + "d"]; }; print f("a" + "b", f([], f("x" + "y", {})));`,
		`var s = ""; var i = 0; while i < 12 { s = s + $i; print s[i]; i = i + 1; } try { s[99]; } catch e { print [e, s]; }`,
		`var l = [1, 2]; var keep = [l, l]; var i = 0; while i < 20 { [i, [i, "gone"]]; l = [l[0] + 1, keep]; keep[0] = nil; i = i + 1; } print l; print keep;`,
		`var f = fn(n) { if n == 0 { return []; } var l = [n]; l[1] = f(n - 1); return l; }; print f(10); print f(12);`,
	} {
		p := of(t, text)
		d := samples.Dice(1)
		for room := 1; ; room++ {
			o := alike(t, p, room, 200, allActs(&d, 60)...)
			if o.End != api.EndRoom && room > 30 {
				break
			}
		}
	}
	for seed := range 150 {
		p, d := samples.Code(seed), samples.Dice(seed)
		for room := 1; room < 200; room++ {
			o := alike(t, p, room, 20, nil, some(&d, 20))
			if o.End != api.EndRoom && room > 30 {
				break
			}
		}
	}
}
