package graph_test

import (
	"math"
	"slices"
	"testing"

	"gearbox/api"
	"gearbox/trials"
)

// edged: a program whose main function has two locals, three constants, a place that is not come to, a call of one value; it makes the functions 1, over two of its cells, and 2, over none. Function 1 makes 3.
func edged() api.Program {
	return api.Program{
		trials.Fn("Jump 2 Nil Fn 1 Load Call 1 Pop Fn 2 Call Return", trials.Locals(2), trials.Consts(1, "a", 2)),
		trials.Fn("Fn 3 Return", trials.Params(1), trials.Caps(api.Cap{N: 1}, api.Cap{N: 0})),
		trials.Fn("Nil Return"),
		trials.Fn("Nil Return"),
	}
}

// written: graphs of a function of edged's, by hand, each of which may be, or may not.
func written(t *testing.T, fn int, states string, may bool, blocks ...string) {
	t.Helper()
	for _, s := range blocks {
		g := trials.Graph(edged()[fn].Locals, s, states)
		g.Fn = fn
		wantCheck(t, edged(), g, may)
		if tells(edged(), g) != may {
			t.Errorf("%s: told otherwise", s)
		}
	}
}

const main, mains = 0, "2: 0 0; 4: 0 0 0 0; 7: 0 0 0; 2: nil nil; 3: 0 0 0"

// P16.1: nodes without states.
func TestCheckValues(t *testing.T) {
	written(t, main, "", true,
		"Value; Return 0", "Value Nil; Return 0", "Value Bool; Return 0", "Value Bool n1; Return 0", "Value Int n-9223372036854775808; Return 0", "Value Int n9223372036854775807; Return 0",
		"Slot n0; Return 0", "Slot n1; Return 0", "Slot n1; Slot n0; Return 0", "Value; Slot n1; Value; Slot n0; Return 2")
	written(t, main, mains, false,
		"Value n1; Return 0", "Value Bool n2; Return 0", "Value Bool n-1; Return 0", "Value Text; Return 0", "Value List; Return 0", "Value Map; Return 0", "Value Func; Return 0", "Value Cell n1; Return 0", "Value Items; Return 0", "Value s0; Return 0", "Value; Value 0; Return 0",
		"Slot n2; Return 0", "Slot n-1; Return 0", "Slot n0 Bool; Return 0", "Slot n0 s3; Return 0", "Value; Slot 0 n0; Return 0", "Slot n0; Slot n0; Return 0", "Slot n1; Slot n0; Slot n1; Return 0",
		"Jump >1 | Slot n0; Return 0", "Value; Jump >1 | Slot n0; Return 0", "Up n0; Return 0", "None; Return 0")
	written(t, 1, "", true, "Up n0; Return 0", "Up n1; Up n1; Return 0", "Jump >1 | Up n1; Return 0", "Slot n0; Return 0")
	written(t, 1, "0: nil", false, "Up n2; Return 0", "Up n-1; Return 0", "Up n0 s0; Return 0", "Up n0 Int; Return 0", "Up n0; Up 0 n0; Return 0", "Slot n1; Return 0")
	written(t, 2, "", false, "Slot n0; Return 0", "Up n0; Return 0")
}

// P16.1: nodes with states, whose slots are the node 0, or nil.
func TestCheckNodes(t *testing.T) {
	const after = "; Return 0"
	for _, one := range []string{"Cell", "CellLoad", "Not", "Neg", "Len", "Show", "Print"} {
		written(t, main, mains, true, "Value; "+one+" 0 s0"+after, "Value; "+one+" 0 s3"+after, "Value; Jump >1 | "+one+" 0 s2"+after)
		written(t, main, mains, false, "Value; "+one+" s0"+after, "Value; "+one+" 0 0 s0"+after, "Value; "+one+" 0"+after, "Value; "+one+" 0 s5"+after, "Value; "+one+" 0 n1 s0"+after, "Value; "+one+" 0 Bool s0"+after, "Value; "+one+" 1 s0"+after, "Value; "+one+" 2 s0; Value"+after, "Value; "+one+" -1 s0"+after)
	}
	for _, two := range []string{"CellStore", "Get"} {
		written(t, main, mains, true, "Value; "+two+" 0 0 s0"+after)
		written(t, main, mains, false, "Value; "+two+" 0 s0"+after, "Value; "+two+" 0 0 0 s0"+after, "Value; "+two+" 0 0 n1 s0"+after, "Value; "+two+" 0 0"+after)
	}
	written(t, main, mains, true, "Value; Put 0 0 0 s0"+after, "Value; List s0"+after, "Value; List 0 0 0 s0"+after, "Value; Map s0"+after, "Value; Map 0 0 s0"+after, "Value; Map 0 0 0 0 s0"+after, "Value; Const n0 s0"+after, "Value; Const n2 s0"+after)
	written(t, main, mains, false, "Value; Put 0 0 s0"+after, "Value; Put 0 0 0 0 s0"+after, "Value; List 0 n1 s0"+after, "Value; List 0"+after, "Value; Map 0 s0"+after, "Value; Map 0 0 0 s0"+after, "Value; Map 0 0"+after, "Value; Const n3 s0"+after, "Value; Const n-1 s0"+after, "Value; Const n0"+after, "Value; Const 0 n0 s0"+after, "Value; Const n0 Int s0"+after)
	for _, bin := range []string{"Add", "Sub", "Mul", "Div", "Mod", "Less", "Most"} {
		written(t, main, mains, true, "Value; Bin 0 0 "+bin+" s0"+after, "Value; IntBin 0 0 "+bin+" s0"+after)
	}
	written(t, main, mains, true, "Value; Bin 0 0 Same s0"+after, "Value; Bin 0 0 Unlike s0"+after)
	written(t, main, mains, false, "Value; IntBin 0 0 Same s0"+after, "Value; IntBin 0 0 Unlike s0"+after, "Value; Bin 0 0 s0"+after, "Value; Bin 0 0 n10 s0"+after, "Value; Bin 0 0 n-1 s0"+after, "Value; IntBin 0 0 s0"+after, "Value; Bin 0 Add s0"+after, "Value; IntBin 0 Add s0"+after, "Value; Bin 0 0 Add"+after, "Value; IntBin 0 0 Add"+after, "Value; Bin 0 0 Add Int s0"+after)
	for _, kind := range []string{"Nil", "Bool", "Int", "Text", "List", "Map", "Func"} {
		written(t, main, mains, true, "Value; Guard 0 "+kind+" s0"+after)
	}
	written(t, main, mains, false, "Value; Guard 0 Cell s0"+after, "Value; Guard 0 Items s0"+after, "Value; Guard 0 Int n1 s0"+after, "Value; Guard 0 Int"+after, "Value; Guard Int s0"+after, "Value; Guard 0 0 Int s0"+after)
	written(t, 1, "0: nil", true, "Value; UpStore 0 n0 s0"+after, "Value; UpStore 0 n1 s0"+after)
	written(t, 1, "0: nil", false, "Value; UpStore 0 n2 s0"+after, "Value; UpStore 0 n-1 s0"+after, "Value; UpStore n0 s0"+after, "Value; UpStore 0 0 n0 s0"+after, "Value; UpStore 0 n0"+after)
}

// P16.1: functions that are made, and calls, whose state has a call of as many values.
func TestCheckCalls(t *testing.T) {
	const after = "; Return 0"
	written(t, main, mains, true, "Value; Fn 0 0 n1 s0"+after, "Value; Fn n2 s0"+after, "Value; Call 0 0 s1"+after, "Value; Call 0 s2"+after)
	written(t, main, mains, false,
		"Value; Fn 0 n1 s0"+after, "Value; Fn 0 0 0 n1 s0"+after, "Value; Fn 0 n2 s0"+after, "Value; Fn n3 s0"+after, "Value; Fn n0 s0"+after, "Value; Fn n4 s0"+after, "Value; Fn n-1 s0"+after, "Value; Fn n2"+after, "Value; Fn n2 Func s0"+after,
		"Value; Call s1"+after, "Value; Call s2"+after, "Value; Call 0 s1"+after, "Value; Call 0 0 0 s1"+after, "Value; Call 0 0 s2"+after, "Value; Call 0 0 s0"+after, "Value; Call 0 s0"+after, "Value; Call 0 s4"+after, "Value; Call 0 0 n1 s1"+after, "Value; Call 0 0"+after, "Value; Call 0 0 Func s1"+after)
	written(t, 1, "0: nil", true, "Value; Fn n3 s0"+after)
	written(t, 1, "0: nil", false, "Value; Fn n2 s0"+after, "Value; Fn 0 0 n1 s0"+after, "Value; Call 0 s0"+after)
	written(t, 2, "0:", false, "Value; Fn n2 s0"+after)
}

// P16.1: phis stand ahead of all other nodes, not in the block 0, with an arg for each block ahead, told where that ends.
func TestCheckPhis(t *testing.T) {
	const two = "Value Bool; Slot n0; Unless 0 >1 >2 s3 | "
	written(t, main, mains, true,
		"Value; Jump >1 | Phi 0; Return 1", "Value; Jump >1 | Phi 0; Phi 0; Value; Return 2",
		two+"Value; Jump >3 | Value; Jump >3 | Phi 2 3; Return 4", two+"Value; Jump >3 | Value; Jump >3 | Phi 0 3; Phi 2 1; Return 5",
		two+"Value; Jump >3 | Value; Return 3 | Phi 2; Return 4",
		"Value; Jump >1 | Phi 0 1; Loop >1 s3", "Value; Jump >1 | Phi 0 2; Phi 0 1; Loop >1 s3", "Value; Jump >1 | Phi 0 2; Value; Loop >1 s3",
		"Value; Jump >1 | Phi 0 2; Jump >2 | Value; Loop >1 s3", "Value; Jump >1 | Phi 0 2; Jump >2 | Phi 1; Loop >1 s3")
	written(t, main, mains, false,
		"Phi; Return 0", "Phi 0; Return 0", "Value; Phi; Return 0",
		"Value; Jump >1 | Value; Phi 0; Return 1", "Value; Jump >1 | Phi 0; Value; Phi 0; Return 1", "Value; Jump >1 | Phi; Return 0", "Value; Jump >1 | Phi 0 0; Return 0", "Value; Jump >1 | Phi 1; Return 0", "Value; Jump >1 | Phi 2; Value; Return 0",
		"Value; Jump >1 | Phi 0 n1; Return 0", "Value; Jump >1 | Phi 0 Bool; Return 0", "Value; Jump >1 | Phi 0 s3; Return 0", "Value; Jump >1 | Phi 7; Return 0", "Value; Jump >1 | Phi -1; Return 0",
		two+"Value; Jump >3 | Value; Jump >3 | Phi 3 2; Return 4", two+"Value; Jump >3 | Value; Jump >3 | Phi 2 2; Return 4", two+"Value; Jump >3 | Value; Jump >3 | Phi 2; Return 4",
		"Value; Jump >1 | Phi 1 1; Loop >1 s3", "Value; Jump >1 | Phi 2 0; Jump >2 | Value; Loop >1 s3")
}

// P16.1: where blocks lead to, and what their ends have.
func TestCheckEnds(t *testing.T) {
	written(t, main, mains, true,
		"Value; Return 0", "Value; Throw 0 s0", "Value; Jump >1 | Return 0", "Value; Unless 0 >1 >2 s0 | Return 0 | Return 0", "Value; Unless 0 >2 >1 s0 | Return 0 | Return 0", "Value; Unless 0 >1 >2 s0 | Jump >2 | Return 0",
		"Value; Jump >1 | Loop >1 s0", "Value; Jump >1 | Jump >2 | Loop >1 s0", "Value; Jump >1 | Jump >2 | Loop >2 s0")
	written(t, main, mains, false,
		"", "Value; None", "Value; Return", "Value; Return 0 0", "Value; Return 1", "Value; Return -1", "Value; Return 0 s0", "Value; Return 0 >1 | Return 0", "Return 0",
		"Value; Throw 0", "Value; Throw s0", "Value; Throw 0 0 s0", "Value; Throw 0 s5", "Value; Throw 0 >1 s0 | Return 0",
		"Value; Jump", "Value; Jump >0", "Value; Jump >2 | Return 0", "Value; Jump >-1 | Return 0", "Value; Jump 0 >1 | Return 0", "Value; Jump >1 s0 | Return 0", "Value; Jump >1 >2 | Return 0 | Return 0", "Value; Jump >1 | Jump >1", "Value; Jump >1 | Jump >0",
		"Value; Unless 0 >1 s0 | Return 0", "Value; Unless 0 >1 >1 s0 | Return 0", "Value; Unless 0 >1 >2 | Return 0 | Return 0", "Value; Unless >1 >2 s0 | Return 0 | Return 0", "Value; Unless 0 >1 >3 s0 | Return 0 | Return 0", "Value; Unless 0 >0 >1 s0 | Return 0", "Value; Unless 0 >1 >2 >3 s0 | Return 0 | Return 0 | Return 0", "Value; Jump >1 | Unless 0 >1 >2 s0 | Return 0",
		"Value; Loop >0 s0", "Value; Jump >1 | Loop >0 s0", "Value; Jump >1 | Loop >2 s0 | Return 0", "Value; Jump >1 | Loop s0", "Value; Jump >1 | Loop >1", "Value; Jump >1 | Loop 0 >1 s0", "Value; Jump >1 | Loop >1 >1 s0",
		// blocks that no lesser one leads to
		"Value; Return 0 | Return 0", "Value; Return 0 | Loop >1 s0", "Value; Jump >2 | Jump >2 | Return 0", "Value; Jump >2 | Return 0 | Loop >1 s0", "Value; Jump >2 | Jump >3 | Loop >1 s0 | Return 0")
}

// P16.1: Ahead is just the blocks that lead to one, rising.
func TestCheckAhead(t *testing.T) {
	const blocks = "Value; Unless 0 >1 >2 s0 | Jump >2 | Jump >3 | Loop >2 s0"
	for b, right := range [][]int{{}, {0}, {0, 1, 3}, {2}} {
		for _, ahead := range [][]int{right, {}, {0}, {1}, {2}, {3}, {0, 1}, {1, 0, 3}, {0, 1, 3}, {0, 3, 1}, {0, 1, 1, 3}, {0, 0}, {2, 2}, {0, 1, 2, 3}, {-1}, {4}, {-1, 0, 1, 3}, {0, 1, 3, 4}, {math.MaxInt}} {
			g := trials.Graph(2, blocks, mains)
			g.Blocks[b].Ahead = ahead
			wantCheck(t, edged(), g, slices.Equal(ahead, right))
		}
	}
	// a block that leads to one twice
	for _, ahead := range [][]int{{0}, {0, 0}} {
		g := trials.Graph(2, "Value; Unless 0 >1 >1 s0 | Return 0", mains)
		g.Blocks[1].Ahead = ahead
		wantCheck(t, edged(), g, false)
	}
}

// P16.1: states, be they had by one or not; only where they are had they need be reached.
func TestCheckStates(t *testing.T) {
	const blocks = "Value; Return 0 "
	for states, may := range map[string]bool{
		"0: 0 0": true, "0: 0 nil": true, "0: nil nil": true, "2: 0 0; 2: 0 0": true, "3: 0 nil 0": true, "4: 0 0 nil 0": true, "5: 0 0 0": true, "8: 0 0 0": true,
		"0:": false, "0: 0": false, "0: 0 0 0": false, "0: 0 1": false, "0: -2 0": false, "0: 0 -1": true, "3: 0 0": false, "4: 0 0 0": false,
		"1: 0 0": false, "1: 0 0 0": false, "1: nil": false, "1:": false, "9: 0 0": false, "9:": false, "-1: 0 0": false, "-1:": false, "9223372036854775807: 0 0": false, "-9223372036854775808: 0 0": false,
		"0: 0 0; 0: 0": false, "0: 0; 0: 0 0": false, "0: 9223372036854775807 0": false, "0: -9223372036854775808 0": false,
	} {
		written(t, main, states, may, blocks)
	}
	// a state that nobody has may tell nodes that are told nowhere near; and those of other branches
	written(t, main, "2: 1 2", true, "Value; Jump >1 | Value; Value; Return 0")
	written(t, main, "2: 1 nil; 2: nil 2; 2: 0 nil", true, "Value; Unless 0 >1 >2 s2 | Value; Throw 0 s0 | Value; Throw 0 s1")
	written(t, main, "2: 1 nil; 2: nil 2; 2: 0 nil", false, "Value; Unless 0 >1 >2 s2 | Value; Throw 0 s1 | Value; Throw 0 s1", "Value; Unless 0 >1 >2 s2 | Value; Throw 0 s0 | Value; Throw 0 s0", "Value; Unless 0 >1 >2 s0 | Value; Throw 0 s0 | Value; Throw 0 s1")
	written(t, main, "2: 1 nil", true, "Value; Value; Print 0 s0; Return 0", "Value; Value; Throw 0 s0", "Value; Value; Unless 0 >1 >2 s0 | Return 0 | Return 0", "Value; Value; Jump >1 | Loop >1 s0")
	written(t, main, "2: 1 nil", false, "Value; Print 0 s0; Value; Return 0", "Value; Print 0 s0; Return 0", "Value; Print 0 s0; Value; Print 0 s0; Return 0", "Value; Throw 0 s0", "Value; Jump >1 | Loop >1 s0", "Value; Jump >1 | Jump >2 | Loop >1 s0")
	written(t, main, "2: nil 2", true, "Value; Value; Value; Print 0 s0; Print 0 s0; Return 0")
	written(t, main, "2: nil 2", false, "Value; Value; Print 0 s0; Print 0 s0; Return 0", "Value; Print 0 s0; Value; Print 0 s0; Return 0")
}

// P16.1: an arg stands ahead of what has it, in its block or above it.
func TestCheckReached(t *testing.T) {
	const fork = "Value; Unless 0 >1 >2 s3 | "
	written(t, main, mains, true,
		"Value; Value; Print 1 s0; Return 1", fork+"Value; Print 1 s3; Return 1 | Value; Return 3", fork+"Value; Return 1 | Jump >3 | Value; Print 0 s3; Return 2",
		fork+"Return 0 | Value; Jump >3 | Print 1 s3; Return 1", "Value; Jump >1 | Value; Unless 0 >2 >3 s3 | Loop >1 s3 | Print 1 s3; Return 1")
	written(t, main, mains, false,
		"Value; Print 2 s0; Value; Return 0", "Value; Print 1 s0; Return 0", "Value; Jump >1 | Print 2 s0; Value; Return 0", "Value; Print 1 s0; Jump >1 | Value; Return 0", "Value; Return 1 | Value; Return 0",
		fork+"Value; Return 1 | Return 1", fork+"Value; Return 1 | Print 1 s3; Return 0", fork+"Value; Jump >3 | Jump >3 | Return 1", fork+"Value; Jump >3 | Value; Jump >3 | Print 1 s3; Return 0", fork+"Value; Jump >3 | Value; Jump >3 | Value; Throw 2 s3",
		fork+"Value; Jump >2 | Return 1", fork+"Value; Jump >2 | Print 1 s3; Return 0",
		"Value; Jump >1 | Unless 0 >2 >3 s3 | Value; Loop >1 s3 | Print 1 s3; Return 0")
}

// P16.1: each node stands in just one block, once.
func TestCheckStands(t *testing.T) {
	const blocks = "Value; Value; Jump >1 | Value; Print 0 s3; Return 0"
	for _, c := range []struct {
		first, second []int
		may           bool
	}{
		{[]int{0, 1}, []int{2, 3}, true}, {[]int{1, 0}, []int{3, 2}, true}, {[]int{0, 1, 2, 3}, nil, true}, {[]int{0}, []int{3, 1, 2}, true}, {[]int{0, 1, 2}, []int{3}, true},
		{[]int{0, 1}, []int{2}, false}, {[]int{0}, []int{2, 3}, false}, {nil, nil, false}, {nil, []int{0, 1, 2}, false},
		{[]int{0, 1, 1}, []int{2, 3}, false}, {[]int{0, 1}, []int{1, 2, 3}, false}, {[]int{0, 0}, []int{2, 3}, false}, {[]int{0, 1}, []int{2, 2, 3}, false}, {[]int{0, 1}, []int{3, 3}, false},
		{[]int{0, 1, 4}, []int{2, 3}, false}, {[]int{0, 1}, []int{2, 3, -1}, false}, {[]int{0, 1}, []int{2, 4}, false}, {[]int{0, math.MaxInt}, []int{2, 3}, false}, {[]int{0, math.MinInt}, []int{2, 3}, false},
	} {
		g := trials.Graph(2, blocks, mains)
		g.Blocks[0].Nodes, g.Blocks[1].Nodes = c.first, c.second
		wantCheck(t, edged(), g, c.may)
	}
}

// P16.1: where a graph is come into, and with how many slots.
func TestCheckEntered(t *testing.T) {
	for pc, right := range map[int]int{0: 2, 1: -1, 2: 2, 3: 3, 4: 4, 5: 3, 6: 2, 7: 3, 8: 3, 9: -1, -1: -1, math.MaxInt: -1, math.MinInt: -1} {
		for _, slots := range []int{0, 1, 2, 3, 4, 5, -1, math.MaxInt, math.MinInt} {
			g := trials.Graph(slots, "Value; Return 0", "")
			g.Pc = pc
			wantCheck(t, edged(), g, right >= 0 && slots == right)
		}
	}
	g := trials.Graph(4, "Slot n3; Slot n2; Return 0", "")
	g.Pc = 4
	wantCheck(t, edged(), g, true)
	g.Nodes[0].N = 4
	wantCheck(t, edged(), g, false)
	g.Nodes[0].N = math.MinInt64
	wantCheck(t, edged(), g, false)
}
