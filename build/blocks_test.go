package build_test

import (
	"testing"

	"gearbox/api"
	"gearbox/trials"
)

// way is a main function, and its graph from a place on.
type way struct {
	what           string
	code           string
	locals         int
	pc             int
	blocks, states string
}

var ways = []way{
	{
		"what one way writes and the other one does not meets in a phi",
		"Yes Unless 4 Nil Store Load Return", 2, 0,
		"Slot n0; Slot n1; Value Bool n1; Unless 2 >1 >2 s0 | Value; Jump >2 | Phi 0 3; Return 4", "1: 0 1 2",
	},
	{
		"what both ways have needs none",
		"Yes Unless 4 Nil Pop Load Return", 1, 0,
		"Slot n0; Value Bool n1; Unless 1 >1 >2 s0 | Value; Jump >2 | Return 0", "1: 0 1",
	},
	{
		"nor what both write, if it is the same",
		"Nil Dup Yes Unless 7 Dup Store Jump 9 Dup Store Pop Load Return", 1, 0,
		"Slot n0; Value; Value Bool n1; Unless 2 >1 >2 s0 | Jump >3 | Jump >3 | Return 1", "3: 0 1 1 2",
	},
	{
		"two branches",
		"Yes Unless 5 No Store Jump 7 Nil Store Load Return", 1, 0,
		"Slot n0; Value Bool n1; Unless 1 >1 >2 s0 | Value Bool; Jump >3 | Value; Jump >3 | Phi 2 3; Return 4", "1: 0 1",
	},
	{
		"values on the stack meet, too",
		"Nil Yes Unless 5 No Jump 6 Nil List 2 Return", 0, 0,
		"Value; Value Bool n1; Unless 1 >1 >2 s0 | Value Bool; Jump >3 | Value; Jump >3 | Phi 2 3; List 0 4 s1; Return 5", "2: 0 1; 6: 0 4",
	},
	{
		"locals ahead of the stack",
		"Nil Yes Unless 7 Yes Store 1 No Jump 8 Nil List 2 Return", 2, 0,
		"Slot n0; Slot n1; Value; Value Bool n1; Unless 3 >1 >2 s0 | Value Bool n1; Value Bool; Jump >3 | Value; Jump >3 | Phi 4 1; Phi 5 6; List 2 8 s1; Return 9", "2: 0 1 2 3; 8: 0 7 2 8",
	},
	{
		"and",
		"Load Dup Unless 5 Pop Load 1 Return", 2, 0,
		"Slot n0; Slot n1; Unless 0 >1 >2 s0 | Jump >2 | Phi 0 1; Return 2", "2: 0 1 0 0",
	},
	{
		"or",
		"Load Dup Unless 4 Jump 6 Pop Load 1 Return", 2, 0,
		"Slot n0; Slot n1; Unless 0 >1 >2 s0 | Jump >3 | Jump >3 | Phi 0 1; Return 2", "2: 0 1 0 0",
	},
	{
		"three ways to one place, two of which bring the same",
		"Load Unless 6 Yes Unless 6 No Store Load Return", 1, 0,
		"Slot n0; Unless 0 >1 >3 s0 | Value Bool n1; Unless 1 >2 >3 s1 | Value Bool; Jump >3 | Phi 0 0 2; Return 3", "1: 0 0; 3: 0 1",
	},
	{
		"a loop: a local that is written anywhere may be another one when it comes back; one that is not is the same all along",
		"Nil Store Load 1 Unless 7 Yes Store Loop 2 Load Return", 2, 0,
		"Slot n0; Slot n1; Value; Jump >1 | Phi 2 4; Unless 1 >2 >3 s0 | Value Bool n1; Loop >1 s1 | Return 3", "3: 3 1 1; 6: 4 1",
	},
	{
		"the same from the place of the loop on",
		"Nil Store Load 1 Unless 7 Yes Store Loop 2 Load Return", 2, 2,
		"Slot n0; Slot n1; Jump >1 | Phi 0 3; Unless 1 >2 >3 s0 | Value Bool n1; Loop >1 s1 | Return 2", "3: 2 1 1; 6: 3 1",
	},
	{
		"a loop to the beginning, which is a block of its own then",
		"Cell Loop", 2, 0,
		"Slot n0; Slot n1; Jump >1 | Phi 0 3; Cell 2 s0; Loop >1 s1", "0: 2 1; 1: 3 1",
	},
	{
		"a loop to itself",
		"Loop", 1, 0,
		"Slot n0; Jump >1 | Loop >1 s0", "0: 0",
	},
	{
		"a loop to itself behind something",
		"Nil Pop Loop 2", 1, 0,
		"Slot n0; Value; Jump >1 | Loop >1 s0", "2: 0",
	},
	{
		"two loops to one place",
		"Yes Store Load Unless 7 No Store Loop 2 Loop 2", 1, 0,
		"Slot n0; Value Bool n1; Jump >1 | Phi 1 3 2; Unless 2 >2 >3 s0 | Value Bool; Loop >1 s1 | Loop >1 s2", "3: 2 2; 6: 3; 7: 2",
	},
	{
		"a loop within a loop",
		"Load Unless 6 Load Unless 5 Loop 2 Loop No Store Nil Return", 1, 0,
		"Slot n0; Jump >1 | Phi 0 2; Unless 1 >2 >5 s0 | Phi 1 2; Unless 2 >3 >4 s1 | Loop >2 s2 | Loop >1 s3 | Value Bool; Value; Return 4", "1: 1 1; 3: 2 2; 4: 2; 5: 2",
	},
	{
		"from the place of the inner one on: the outer one is come to by a loop alone, so that it falls there",
		"Load Unless 6 Load Unless 5 Loop 2 Loop No Store Nil Return", 1, 2,
		"Slot n0; Jump >1 | Unless 0 >2 >3 s0 | Loop >1 s1 | Value; Throw 1 s2", "3: 0 0; 4: 0; 5: 0",
	},
	{
		"a place that loops alone lead to",
		"Jump 3 Nil Pop Yes Store Loop 1", 1, 0,
		"Slot n0; Value Bool n1; Value; Throw 2 s0", "5: 1",
	},
	{
		"the same from that place on",
		"Jump 3 Nil Pop Yes Store Loop 1", 1, 1,
		"Slot n0; Jump >1 | Phi 0 3; Value; Value Bool n1; Loop >1 s0", "5: 3",
	},
	{
		"both ways lead to the next place: a block stands in between",
		"Yes Unless 2 Load Return", 1, 0,
		"Slot n0; Value Bool n1; Unless 1 >1 >2 s0 | Jump >2 | Return 0", "1: 0 1",
	},
	{
		"a third one leads there, too",
		"Load Unless 6 No Store Load Unless 6 Load Return", 1, 0,
		"Slot n0; Unless 0 >1 >3 s0 | Value Bool; Unless 1 >2 >3 s1 | Jump >3 | Phi 0 1 1; Return 2", "1: 0 0; 5: 1 1",
	},
	{
		"a jump over what is not come to ends no block",
		"Nil Jump 4 Pop Nil Return", 0, 0,
		"Value; Return 0", "",
	},
	{
		"nor two of them",
		"Nil Jump 3 Pop Jump 6 Nil Nil Return", 0, 0,
		"Value; Return 0", "",
	},
	{
		"a jump to the next place neither",
		"Nil Jump 2 Return", 0, 0,
		"Value; Return 0", "",
	},
	{
		"a jump over what is come to does",
		"Load Unless 4 Nil Jump 6 Nil Return Show Return", 1, 0,
		"Slot n0; Unless 0 >1 >2 s0 | Value; Jump >3 | Value; Return 2 | Show 1 s1; Return 3", "1: 0 0; 6: 0 1",
	},
	{
		"what stands behind ends",
		"Load Unless 4 Load Throw Load Return Nil Return", 1, 0,
		"Slot n0; Unless 0 >1 >2 s0 | Throw 0 s1 | Return 0", "1: 0 0; 3: 0 0",
	},
}

// P17.1: ways of a function, by hand.
func TestWays(t *testing.T) {
	for _, w := range ways {
		t.Log(w.what)
		p := api.Program{trials.Fn(w.code, trials.Locals(w.locals))}
		want(t, p, 0, w.pc, nil, trials.Graph(w.locals, w.blocks, w.states))
		if t.Failed() {
			t.FailNow()
		}
	}
}

// P17.1: what is caught is no way: where something is thrown the graph falls; nothing is made for what handlers alone lead to.
func TestHandlers(t *testing.T) {
	p := api.Program{trials.Fn("Yes Throw Jump 5 Store Cell Nil Return", trials.Locals(1), trials.Handlers(0, 2, 3, 0))}
	want(t, p, 0, 0, nil, trials.Graph(1, "Slot n0; Value Bool n1; Throw 1 s0", "1: 0 1"))
	p[0].Code[1].Op = api.OpPop
	want(t, p, 0, 0, nil, trials.Graph(1, "Slot n0; Value Bool n1; Value; Return 2", ""))
	// a loop that a handler alone leads to
	f := trials.Fn("Yes Throw Store Load Unless 8 No Store Loop 3 Nil Return", trials.Locals(1), trials.Handlers(0, 2, 2, 0))
	want(t, api.Program{f}, 0, 0, nil, trials.Graph(1, "Slot n0; Value Bool n1; Throw 1 s0", "1: 0 1"))
	want(t, api.Program{f}, 0, 3, nil, trials.Graph(1, "Slot n0; Jump >1 | Phi 0 2; Unless 1 >2 >3 s0 | Value Bool; Loop >1 s1 | Value; Return 3", "4: 1 1; 7: 2"))
}
