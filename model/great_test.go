package model_test

import (
	"strings"
	"testing"

	"gearbox/api"
)

// most: with all the room and fuel that may be.
func most(t *testing.T, text string) api.Outcome {
	t.Helper()
	return run(t, of(t, text), api.MaxWords, api.MaxFuel)
}

// P0.2, R1: runs end, and soon, with all the fuel that may be.
func TestMostFuel(t *testing.T) {
	t.Parallel()
	for _, text := range []string{
		`while yes { }`,
		`var i = 0; while yes { i = i + 1; "text" + $i; [i, {i: [i]}]; }`,
		`var f = fn() { return 0; }; while yes { f(); }`,
		`var f = fn() { f(); }; while yes { try { f(); } catch e { } }`,
		`var l = [0]; while yes { try { l[0](); } catch e { l[0] = e; } }`,
	} {
		if o := most(t, text); o.End != api.EndFuel || len(o.Out) > 0 || o.Fuel > 0 || o.Words > 30 {
			t.Errorf("%s: %v", text, o)
		}
	}
	if o := most(t, `var i = 0; while i < 1048576 { i = i + 1; } print i;`); !same(o, api.Outcome{End: api.EndDone, Out: []string{"1048576"}}) {
		t.Error(o)
	}
}

// P12.1, P0.3: as much as there is room for.
func TestMostRoom(t *testing.T) {
	t.Parallel()
	// lists within lists, 8 words each, deeper than calls should be
	o := most(t, `var a = []; while yes { a = [1, a]; }`)
	if o.End != api.EndRoom || o.Words != 3+8*((api.MaxWords-3)/8) {
		t.Error(o)
	}
	o = most(t, `var l = []; while yes { l[#l] = "12345678"; }`)
	if o.End != api.EndThrown || o.Value != "items" {
		t.Error(o)
	}
	o = most(t, `var l = []; var i = 0; while i < 65536 { l[i] = i; i = i + 1; } l[65535] = "last"; print #l; print l[65535]; try { l[65536] = 0; } catch e { print e; } try { l[65537] = 0; } catch e { print e; } print #l;`)
	if got := strings.Join(o.Out, " "); o.End != api.EndDone || got != "65536 last items bounds 65536" {
		t.Error(o.End, o.Value, got)
	}
	o = most(t, `var m = {}; var i = 0; while i < 65536 { m[i] = i; i = i + 1; } m[0] = "first"; print #m; print m[0]; try { m[65536] = 0; } catch e { print e; } print m[65536]; print #m;`)
	if got := strings.Join(o.Out, " "); o.End != api.EndDone || got != "65536 first items nil 65536" {
		t.Error(o.End, o.Value, got)
	}
}
