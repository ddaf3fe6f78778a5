package base_test

import (
	"strconv"
	"strings"
	"testing"

	"gearbox/api"
	"gearbox/trials"
)

// P15.1: nothing is made for places that are not come to, and they count for no register.
func TestNotComeTo(t *testing.T) {
	f := trials.Fn("Jump 5 Nil Nil Nil Return Nil Return Nil Nil Nil Nil Loop 2")
	want(t, api.Program{f}, 0, trials.RegFn(1, "Jump n1; Value >0; Return 0", "", "0 at 0:"))
	f = trials.Fn("Nil Return Fn 1 Call Print Loop 1")
	want(t, api.Program{f, trials.Fn("Nil Return")}, 0, trials.RegFn(1, "Value >0; Return 0", "", "0 at 0:"))
	f = trials.Fn("Yes Throw Nil Pop Print Loop", trials.Handlers(0, 1, 4, 0))
	want(t, api.Program{f}, 0, trials.RegFn(1, "Value >0 Bool n1; Throw 0 x0; Print 0 x1; Loop n0 x2", "1: 0; 4: 0; 5:", "0 at 0:"))
}

// P15.1: what is caught stands where the handler says, with the values that it keeps beneath.
func TestHandlers(t *testing.T) {
	f := trials.Fn("Nil Yes No Print Print Return Print Print Nil Return", trials.Locals(1), trials.Handlers(3, 4, 6, 1))
	w := trials.RegFn(4, "Value >1; Value >2 Bool n1; Value >3 Bool; Print 3 x0; Print 2 x1; Return 1; Print 2 x2; Print 1 x3; Value >1; Return 1", "3: 0 1 2 3; 4: 0 1 2; 6: 0 1 2; 7: 0 1", "0 at 0: 0")
	want(t, api.Program{f}, 0, w)
	// the deepest place is one that only a handler leads to: depths are counted there, too
	f = trials.Fn("Nil Return Dup Dup Pop Pop Return", trials.Handlers(0, 1, 2, 0))
	want(t, api.Program{f}, 0, trials.RegFn(3, "Value >0; Return 0; Move >1 0; Move >2 1; Return 0", "", "0 at 0:"))
}

// P15.1: a place for which nothing is made is where the next one is.
func TestAt(t *testing.T) {
	f := trials.Fn("Nil Yes Unless 4 Jump 4 Pop Nil Return")
	want(t, api.Program{f}, 0, trials.RegFn(2, "Value >0; Value >1 Bool n1; Unless 1 n4 x0; Jump n4; Value >0; Return 0", "2: 0 1", "0 at 0:"))
	f = trials.Fn("Nil Nil Jump 6 Pop Pop Pop Pop Pop Nil Return")
	want(t, api.Program{f}, 0, trials.RegFn(2, "Value >0; Value >1; Jump n3; Value >0; Return 0", "", "0 at 0:"))
	f = trials.Fn("Nil Pop Cell Yes Unless 7 Nil Pop Loop 2", trials.Locals(1))
	want(t, api.Program{f}, 0, trials.RegFn(2, "Value >1; Cell >0 0 x0; Value >1 Bool n1; Unless 1 n5 x1; Value >1; Loop n1 x2", "2: 0; 4: 0 1; 7: 0", "0 at 0: 0; 2 at 1: 0"))
	f = trials.Fn("Nil Nil Jump 7 Nil Return Nil Return Pop Jump 11 Nil Return Pop Jump 14 Return Loop")
	want(t, api.Program{f}, 0, trials.RegFn(2, "Value >0; Value >1; Jump n3; Jump n4; Jump n5; Loop n0 x0", "14:", "0 at 0:"))
}

// P15.1: entries: the beginning, and where loops begin that are come to, each once, rising.
func TestEntries(t *testing.T) {
	for code, entries := range map[string]string{
		"Nil Return":             "0 at 0: 0",
		"Nil Pop Loop":           "0 at 0: 0",
		"Nil Pop Loop 2":         "0 at 0: 0; 2 at 1: 0",
		"Nil Pop Nil Pop Loop 4": "0 at 0: 0; 4 at 2: 0",
		"Nil Pop Nil Pop Loop 2": "0 at 0: 0; 2 at 1: 0",
		"Yes Unless 3 Loop Yes Unless 6 Loop Nil Pop Loop 6":  "0 at 0: 0; 6 at 6: 0",
		"Cell Yes Unless 4 Loop 1 Yes Unless 7 Loop 1 Loop 4": "0 at 0: 0; 1 at 1: 0; 4 at 4: 0",
		"Cell Cell Yes Unless 5 Loop 2 Loop 1":                "0 at 0: 0; 1 at 1: 0; 2 at 2: 0",
		"Cell Cell Yes Unless 5 Loop 1 Loop 2":                "0 at 0: 0; 1 at 1: 0; 2 at 2: 0",
		"Cell Nil Return Loop 1":                              "0 at 0: 0",
		"Jump 2 Loop Cell Loop 2":                             "0 at 0: 0; 2 at 1: 0",
		"Cell Jump 4 Loop Loop 1 Nil Pop Loop 4":              "0 at 0: 0; 4 at 2: 0",
	} {
		c := codeOf(t, code)
		w := trials.RegFn(0, "", "", entries)
		c.Code, c.Exits, c.Regs = nil, nil, 0
		if !same(c, w) {
			t.Errorf("%s: %v, want %v", code, c.Entries, w.Entries)
		}
	}
}

// codeOf: of a main function with one local.
func codeOf(t *testing.T, s string) api.RegFn {
	t.Helper()
	return code(t, api.Program{trials.Fn(s, trials.Locals(1))}, 0)
}

// P15.1: as many registers as there may be, for as many values as may be.
func TestDeepest(t *testing.T) {
	const most = api.MaxLocals + api.MaxStack
	nils := strings.Repeat("Nil ", api.MaxStack)
	for words, n := range map[string]int{
		"List " + strconv.Itoa(api.MaxStack): 256, "Map " + strconv.Itoa(api.MaxStack/2): 256, "Call " + strconv.Itoa(api.MaxStack-1): 256,
		"List": 0, "Map": 0, "Call": 1, "List 255": 255, "Map 127": 254, "Call 254": 255,
	} {
		first := nils
		if n == 0 {
			first = strings.Repeat("Nil ", api.MaxStack-1) // what is made stands on the top
		}
		p := api.Program{trials.Fn(first+words+" Return", trials.Locals(api.MaxLocals))}
		c := code(t, p, 0)
		i := c.Code[len(c.Code)-2]
		deep := len(c.Code) - 2
		if c.Regs != most || len(i.Args) != n || i.To != api.MaxLocals+deep-n || n > 0 && (i.Args[0] != i.To || i.Args[n-1] != most-1) || len(c.Exits[0].Slots) != api.MaxLocals+deep {
			t.Errorf("%s: %d registers, >%d %v", words, c.Regs, i.To, i.Args)
		}
		alike(t, p)
	}
	p := api.Program{trials.Fn("Cell 63 Fn 1 Return", trials.Locals(64)), trials.Fn("Nil Return", trials.Caps(make([]api.Cap, api.MaxParts)...))}
	for n := range p[1].Caps {
		p[1].Caps[n].N = n % 64
	}
	if c := code(t, p, 0); len(c.Code[1].Args) != api.MaxParts || c.Code[1].Args[4095] != 63 || c.Regs != 65 {
		t.Error(c.Regs, c.Code[1])
	}
	alike(t, p)
}
