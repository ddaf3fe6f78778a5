package model_test

import (
	"fmt"
	"strings"
	"testing"

	"gearbox/api"
)

// most: with all the room and fuel that may be.
func most(t *testing.T, text string) api.Outcome {
	t.Helper()
	return run(t, of(t, text), api.MaxWords, api.MaxFuel)
}

// P0.2, R1: runs end, and soon, with all the fuel that may be.
func TestMostFuel(t *testing.T) {
	t.Parallel()
	for _, text := range []string{
		`while yes { }`,
		`var i = 0; while yes { i = i + 1; "text" + $i; [i, {i: [i]}]; }`,
		`var f = fn() { return 0; }; while yes { f(); }`,
		`var f = fn() { f(); }; while yes { try { f(); } catch e { } }`,
		`var l = [0]; while yes { try { l[0](); } catch e { l[0] = e; } }`,
	} {
		if o := most(t, text); o.End != api.EndFuel || len(o.Out) > 0 || o.Fuel > 0 || o.Words > 30 {
			t.Errorf("%s: %v", text, o)
		}
	}
	if o := most(t, `var i = 0; while i < 1048576 { i = i + 1; } print i;`); !same(o, api.Outcome{End: api.EndDone, Out: []string{"1048576"}}) {
		t.Error(o)
	}
}

// P12.1, P0.3: as much as there is room for.
func TestMostRoom(t *testing.T) {
	t.Parallel()
	// lists within lists, 8 words each, deeper than calls should be
	o := most(t, `var a = []; while yes { a = [1, a]; }`)
	if o.End != api.EndRoom || o.Words != 3+8*((api.MaxWords-3)/8) {
		t.Error(o)
	}
	o = most(t, `var l = []; while yes { l[#l] = "12345678"; }`)
	if o.End != api.EndThrown || o.Value != "items" {
		t.Error(o)
	}
	o = most(t, `var l = []; var i = 0; while i < 65536 { l[i] = i; i = i + 1; } l[65535] = "last"; print #l; print l[65535]; try { l[65536] = 0; } catch e { print e; } try { l[65537] = 0; } catch e { print e; } print #l;`)
	if got := strings.Join(o.Out, " "); o.End != api.EndDone || got != "65536 last items bounds 65536" {
		t.Error(o.End, o.Value, got)
	}
	o = most(t, `var m = {}; var i = 0; while i < 65536 { m[i] = i; i = i + 1; } m[0] = "first"; print #m; print m[0]; try { m[65536] = 0; } catch e { print e; } print m[65536]; print #m;`)
	if got := strings.Join(o.Out, " "); o.End != api.EndDone || got != "65536 first items nil 65536" {
		t.Error(o.End, o.Value, got)
	}
}

// P12.1: texts as long as may be, and one byte more.
func TestMostText(t *testing.T) {
	half := strings.Repeat("0123456789abcdef", api.MaxText/32)
	p := of(t, fmt.Sprintf(`var a = "%s"; print a + a; try { print a + a + "x"; } catch e { print e; } try { print [a + a]; } catch e { print e; } try { print $[a + a]; } catch e { print e; } throw [a + a];`, half))
	o := run(t, p, plenty, 0)
	if len(o.Out) != 4 || o.Out[0] != half+half || strings.Join(o.Out[1:], " ") != "great great great" || o.Value != "great" || o.Words != 6+2+512 {
		t.Errorf("%.300v", o)
	}
}

// R1: a stack as deep as may be, as many locals, caps, handlers and instructions.
func TestGreatestCode(t *testing.T) {
	wantOut(t, api.Program{fn(strings.Repeat("Yes ", api.MaxStack) + fmt.Sprintf("List %d Len Print Nil Return", api.MaxStack))}, "256")
	wantOut(t, api.Program{fn(strings.Repeat("Yes ", api.MaxStack) + fmt.Sprintf("Map %d Len Print Nil Return", api.MaxStack/2))}, "1")
	f := fn(strings.Repeat("Nil Pop ", api.MaxCode/2-3) + "Nil Yes Throw Print Nil Return")
	at := len(f.Code) - 3
	for range api.MaxCode - 1 {
		f.Handlers = append(f.Handlers, api.Handler{From: 0, To: at - 1, At: at})
	}
	f.Handlers = append(f.Handlers, api.Handler{From: at - 1, To: at, At: at})
	wantOut(t, api.Program{f}, "yes")
	many := make([]api.Cap, api.MaxParts)
	p := api.Program{
		fn("Yes Store 63 Cell 63 Fn 1 Call Print Nil Return", locals(api.MaxLocals)),
		fn("Up 4095 Return", caps(many...)),
	}
	for i := range many {
		p[1].Caps[i].N = 63
	}
	wantOut(t, p, "yes")
	want(t, p, 3+2+2*api.MaxParts, 1, api.Outcome{End: api.EndDone, Out: []string{"yes"}})
	want(t, p, 3+2+2*api.MaxParts-1, 1, api.Outcome{End: api.EndRoom, Fuel: 1, Words: 3})
}
