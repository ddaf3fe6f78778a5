package interp_test

import (
	"slices"
	"strings"
	"testing"

	"gearbox/api"
)

// most: with all the room and fuel that may be.
func most(t *testing.T, text string) api.Outcome {
	t.Helper()
	return run(t, of(t, text), api.MaxWords, api.MaxFuel, nil)
}

// P0.2, R1: runs end, and soon, with all the fuel that may be; over great heaps and small ones.
func TestMostFuel(t *testing.T) {
	t.Parallel()
	for _, text := range []string{
		`while yes { }`,
		`var i = 0; while yes { i = i + 1; "text" + $i; [i, {i: [i]}]; }`,
		`var f = fn() { return 0; }; while yes { f(); }`,
		`var f = fn() { f(); }; while yes { try { f(); } catch e { } }`,
		`var l = [0]; while yes { try { l[0](); } catch e { l[0] = e; } }`,
	} {
		for room, fuel := range map[int]int{api.MaxWords: api.MaxFuel, 60: 1 << 17} {
			o := run(t, of(t, text), room, fuel, nil)
			if o.End != api.EndFuel || len(o.Out) > 0 || o.Fuel > 0 || o.Words > 30 {
				t.Errorf("%s: %v", text, o)
			}
		}
	}
	acts := every(api.MaxFuel)
	if o := run(t, of(t, `var i = 0; var l = [1, ["a"]]; while i < 1048576 { i = i + 1; } print i; print l;`), 100, api.MaxFuel, acts); !same(o, api.Outcome{End: api.EndDone, Out: []string{"1048576", "[1, [a]]"}}) {
		t.Error(o)
	}
}

// P13.1, P0.3: as much as there is room for.
func TestMostRoom(t *testing.T) {
	t.Parallel()
	// lists within lists, 8 words each, deeper than calls should be
	o := most(t, `var a = []; while yes { a = [1, a]; }`)
	if o.End != api.EndRoom || o.Words != 3+8*((api.MaxWords-3)/8) {
		t.Error(o)
	}
	o = most(t, `var a = []; var i = 0; while yes { a = [a, a]; i = i + 1; if i < 4 or i % 1000 == 0 { print a; } }`)
	if o.End != api.EndRoom || o.Words != 3+8*((api.MaxWords-3)/8) || !slices.Equal(o.Out[:3], []string{"[[], []]", "[[[], []], [[], []]]", "[[[[], []], [[], []]], [[[], []], [[], []]]]"}) {
		t.Error(brief(o))
	}
	o = most(t, `var l = []; while yes { l[#l] = "12345678"; }`)
	if o.End != api.EndThrown || o.Value != "items" {
		t.Error(o)
	}
	o = most(t, `var l = []; var i = 0; while i < 65536 { l[i] = i; i = i + 1; } l[65535] = "last"; print #l; print l[65535]; try { l[65536] = 0; } catch e { print e; } try { l[65537] = 0; } catch e { print e; } print #l;`)
	if got := strings.Join(o.Out, " "); o.End != api.EndDone || got != "65536 last items bounds 65536" {
		t.Error(o.End, o.Value, got)
	}
	o = most(t, `var m = {}; var i = 0; while i < 65536 { m[i] = i; i = i + 1; } m[0] = "first"; print #m; print m[0]; try { m[65536] = 0; } catch e { print e; } print m[65536]; print #m;`)
	if got := strings.Join(o.Out, " "); o.End != api.EndDone || got != "65536 first items nil 65536" {
		t.Error(o.End, o.Value, got)
	}
}

// P0.3: a heap that is nearly full of what is kept, and in which there is hardly room for what is thrown away beside.
func TestNearlyFull(t *testing.T) {
	t.Parallel()
	p := of(t, `var a = []; var i = 0; while i < 130000 { a = [i, a]; i = i + 1; } var j = 0; while j < 60 { "gone" + $j; j = j + 1; } print a[0]; print a[1][0]; i = 0; while i < 130000 { a = a[1]; i = i + 1; } print a;`)
	room := 3 + 130000*8 + 4 + 3 + 3
	alike(t, p, room, api.MaxFuel, nil, append(make([]api.ActKind, 130040), every(9)...))
	alike(t, p, room-2, api.MaxFuel, nil)
}

// R1: a value that leads to all of the heap, while its text is short: what it tells is told soon, as often as it is asked for.
func TestLeadsToMuch(t *testing.T) {
	t.Parallel()
	made := `var l = []; while #l < 60000 { l[#l] = [l]; } var f = fn() { return l; }; var deep = [[[[[[[[[l]]]]]]]]]; `
	for value, want := range map[string]string{"f": "fn 1", "deep": "[[[[[[[[[..]]]]]]]]]", "l": "great"} {
		text := made + `var i = 0; while i < 3000 { try { $` + value + `; print ` + value + `; } catch e { print e; } i = i + 1; }`
		o := most(t, text)
		if o.End != api.EndDone || len(o.Out) != 3000 || slices.ContainsFunc(o.Out, func(s string) bool { return s != want }) {
			t.Error(value, brief(o))
		}
	}
}
