package graph_test

import (
	"slices"
	"strings"
	"testing"

	"gearbox/api"
	"gearbox/trials"
)

// ofFirst: a graph of the function 1.
func ofFirst(g api.Graph) api.Graph {
	g.Fn = 1
	return g
}

// P16.2: phis of a block are told all at once, by the block from which it was come to.
func TestPhis(t *testing.T) {
	p := api.Program{trials.Fn("Nil Return", trials.Locals(2))}
	// two values change places three times
	swaps := "Value Int n1; Value Int n2; Value Int; Value Int n1; Jump >1 |" +
		"Phi 0 5; Phi 1 4; Phi 2 7; IntBin 6 3 Add s0; List 4 5 s0; Print 8 s0; Value Int n3; IntBin 6 10 Less s0; Unless 11 >2 >3 s0 | Loop >1 s0 | Return 4"
	wantOut(t, p, []api.Graph{trials.Graph(2, swaps, "0: nil nil")}, "[1, 2]", "[2, 1]", "[1, 2]", "[2, 1]")
	// each is what the other two were; they stand in another order than their numbers
	turns := "Value Int n1; Value Int n2; Value Int n3; Jump >1 | Phi 0 5; Phi 1 3; Phi 2 4; List 3 4 5 s0; Print 6 s0; Loop >1 s0"
	for _, order := range [][]int{{3, 4, 5}, {5, 4, 3}, {4, 3, 5}, {4, 5, 3}} {
		g := trials.Graph(2, turns, "0: nil nil")
		copy(g.Blocks[1].Nodes, order)
		o := alike(t, p, []api.Graph{g}, plenty, 3, nil)
		if !slices.Equal(o.Out, []string{"[1, 2, 3]", "[3, 1, 2]", "[2, 3, 1]", "[1, 2, 3]"}) {
			t.Error(o)
		}
	}
	// from which block: three lead to the last one
	const three = "Value Bool % ; Value Bool & ; Unless 0 >1 >2 s0 | Value Int n7; Jump >5 | Unless 1 >3 >4 s0 | Value Int n8; Jump >5 | Value Int n9; Jump >5 | Phi 2 3 4; Phi 4 3 2; Phi 2 2 2; Print 5 s0; Return 5"
	for signs, want := range map[[2]string]string{{"n1", "n0"}: "7", {"n1", "n1"}: "7", {"n0", "n1"}: "8", {"n0", "n0"}: "9"} {
		s := strings.NewReplacer("%", signs[0], "&", signs[1], "; Phi 4 3 2; Phi 2 2 2", "").Replace(three)
		wantOut(t, p, []api.Graph{trials.Graph(2, s, "0: nil nil")}, want)
	}
}

// P16.2: nodes are done in the order in which they stand, whatever their numbers; what is told later, in another branch, is not done.
func TestOrder(t *testing.T) {
	p := api.Program{trials.Fn("Nil Return")}
	g := trials.Graph(0, "Value Int n1; Value Int n2; Value Int n3; Print 0 s0; Print 1 s0; Print 2 s0; Return 0", "0:")
	g.Blocks[0].Nodes = []int{2, 5, 0, 3, 1, 4}
	wantOut(t, p, []api.Graph{g}, "3", "1", "2")
	g = trials.Graph(0, "Value Bool n1; Unless 0 >2 >1 s0 | Print 0 s0; Jump >2 | Value Int n4; Print 2 s0; Return 0", "0:")
	wantOut(t, p, []api.Graph{g}, "4")
	g.Nodes[0].N = 0
	wantOut(t, p, []api.Graph{g}, "no", "4")
}

// P16.2: slots that a frame was come into with are told by NoSlot, behind other nodes, too.
func TestLateSlots(t *testing.T) {
	p := of(t, `var f = fn(a, b) { }; f("a", "b");`)
	g := ofFirst(trials.Graph(2, "Value Int n5; Print 0 s0; List s0; Slot n1; Put 2 7 3 s0; Slot n0; List 5 3 2 s0; Value Int; Print 6 s0; Return 0", "0: nil nil"))
	g.Blocks[0].Nodes = []int{0, 1, 2, 3, 7, 4, 5, 6, 8}
	wantOut(t, p, []api.Graph{g}, "5", "[a, b, [b]]")
	// it is still there behind a collection
	g = ofFirst(trials.Graph(2, "List s0; List s0; Slot n1; Slot n0; Print 2 s0; Print 3 s0; Return 2", "0: nil nil"))
	for room := 8; room < 15; room++ {
		if o := alike(t, p, []api.Graph{g}, room, 9, nil); !slices.Equal(o.Out, []string{"b", "a"}) {
			t.Error(room, o)
		}
	}
	// what the frame was come into with takes no room, unless a state tells it
	for states, most := range map[string]int{"0: nil nil": 7, "0: nil nil; 0: 2 nil": 7, "0: 2 nil": 8, "0: 2 2": 8, "0: 2 3": 11} {
		g = ofFirst(trials.Graph(2, "Value; Value; Slot n1; Slot n0; Show 2 s0; Print 4 s0; Return 2", states))
		for _, room := range []int{8, 9, 10, 11, 12} {
			o := alike(t, p, []api.Graph{g}, room, 9, nil)
			if done := room >= most; done != (o.End == api.EndDone) {
				t.Error(states, room, o)
			}
		}
	}
}

// P16.2: what is thrown into a frame that waits for a call: it falls at that call's state, and has as many values fewer as the call has Args; nil stands for those that a handler keeps all the same.
func TestThrownInto(t *testing.T) {
	code := "Value Int n20; Value Int n21; Fn n1 s1; Value Int n22; Value Bool n1; Call 2 3 s0; Value Int n23; Throw 6 s1"
	for keeps, want := range []string{"22 yes", "22 20 yes", "22 21 20 yes", "22 nil 21 20 yes", "22 nil nil 21 20 yes"} {
		main := trials.Fn("Const Const 1 Fn 1 Const 2 Call 1 Return "+strings.Repeat("Print ", keeps+1)+"Load Print Nil Return", trials.Locals(1), trials.Consts(10, 11, 12), trials.Handlers(4, 5, 6, keeps))
		p := api.Program{main, trials.Fn("Load Throw", trials.Params(1))}
		g := trials.Graph(1, code, "4: 4 0 1 2 3; 0: nil")
		wantOut(t, p, []api.Graph{g}, strings.Fields(want)...)
		thrown := ofFirst(trials.Graph(1, "Slot n0; Throw 0 s0", "1: 0 0"))
		wantOut(t, p, []api.Graph{g, thrown}, strings.Fields(want)...)
		// the values are the state's, not the call's
		g = trials.Graph(1, code, "4: 0 3 nil 1 2; 0: nil")
		others := strings.Fields("22 22 nil nil nil")
		got := []string{others[0]}
		for k := keeps; k > 0; k-- {
			got = append(got, others[k])
		}
		wantOut(t, p, []api.Graph{g}, append(got, "20")...)
	}
}

// P16.2: what is thrown goes through frames that wait and catch nothing, up to one that does, or none.
func TestThrownThrough(t *testing.T) {
	p := api.Program{
		trials.Fn("Fn 1 Call Return Print Nil Return", trials.Handlers(1, 2, 3, 0)),
		trials.Fn("Fn 2 Call Return"),
		trials.Fn("Const Throw", trials.Consts(9)),
	}
	throws := trials.Graph(0, "Value Int n8; Throw 0 s0", "1: 0")
	throws.Fn = 2
	waits := ofFirst(trials.Graph(0, "Fn n2 s0; Call 0 s1; Return 1", "0:; 1: 0"))
	main := trials.Graph(0, "Fn n1 s0; Call 0 s1; Print 1 s0; Return 0", "0:; 1: 0")
	wantOut(t, p, nil, "9")
	wantOut(t, p, []api.Graph{waits}, "9")
	wantOut(t, p, []api.Graph{waits, throws}, "8")
	wantOut(t, p, []api.Graph{main, waits, throws}, "8")
	p[0] = trials.Fn("Fn 1 Call Return")
	if o := run(t, p, []api.Graph{main, waits, throws}, 100, 100); !same(o, api.Outcome{End: api.EndThrown, Value: "8", Fuel: 98}) {
		t.Error(o)
	}
}

// P16.2: frames of both kinds call each other: what is handed over, what comes back.
func TestCalls(t *testing.T) {
	p := of(t, `var f = fn(a, b, c) { var d = [a, b, c]; print d; return d; }; print f(1, 2, 3);`)
	at := slices.IndexFunc(p[0].Code, func(i api.Ins) bool { return i.Op == api.OpCall })
	main := trials.Graph(1, "Fn n1 s0; Value Int n4; Value Int n5; Value Int n6; Call 0 3 1 2 s1; Print 4 s0; Print 0 s0; Return 1", "0: nil; 0: nil 0 3 1 2")
	main.States[1].Pc = at
	f := ofFirst(trials.Graph(4, "Slot n2; Slot n1; Slot n0; Slot n3; List 0 1 2 3 s0; Print 4 s0; Return 1", "0: 2 1 0 3"))
	for _, c := range []struct {
		l    []api.Graph
		want []string
	}{
		{nil, []string{"[1, 2, 3]", "[1, 2, 3]"}},
		{[]api.Graph{main}, []string{"[6, 4, 5]", "[6, 4, 5]", "fn 1"}},
		{[]api.Graph{f}, []string{"[3, 2, 1, nil]", "2"}},
		{[]api.Graph{main, f}, []string{"[5, 4, 6, nil]", "4", "fn 1"}},
	} {
		wantOut(t, p, c.l, c.want...)
	}
}

// P16.2: a frame that fell goes on as a frame of model does, and stays so; its call takes its fuel once.
func TestFallen(t *testing.T) {
	p := of(t, `var i = 0; var f = fn(n) { return n * 2; }; while i < 4 { i = i + 1; try { print f(i); throw i; } catch e { print [e]; } } print "end";`)
	want := []string{"2", "[1]", "4", "[2]", "6", "[3]", "8", "[4]", "end"}
	wantOut(t, p, nil, want...)
	falls := trials.Graph(3, "Slot n0; Guard 0 Int s0; Return 1", "0: nil nil nil")
	wantOut(t, p, []api.Graph{falls}, want...)
	ten := ofFirst(trials.Graph(1, "Slot n0; Value Int n10; IntBin 0 1 Mul s0; Return 2", "2: 0 0 1"))
	want = []string{"10", "[1]", "20", "[2]", "30", "[3]", "40", "[4]", "end"}
	wantOut(t, p, []api.Graph{falls, ten}, want...)
	wantOut(t, p, []api.Graph{ten}, want...)
	p = of(t, `try { 5(); } catch e { print e; }`)
	at := slices.IndexFunc(p[0].Code, func(i api.Ins) bool { return i.Op == api.OpCall })
	g := trials.Graph(1, "Value Int n5; Call 0 s0; Return 1", "0: nil 0")
	g.States[0].Pc = at
	for fuel := range 4 {
		o := alike(t, p, []api.Graph{g}, plenty, fuel, nil)
		want := api.Outcome{End: api.EndDone, Out: []string{"kind"}, Fuel: fuel - 1}
		if fuel == 0 {
			want = api.Outcome{End: api.EndFuel}
		}
		if !same(o, want) {
			t.Errorf("fuel %d: %v", fuel, o)
		}
	}
}

// P16.2: as many frames as there may be, of either kind, and one more: `deep`, thrown by the OpCall to which the call falls.
func TestDeep(t *testing.T) {
	p := api.Program{
		trials.Fn("Const Store Cell Nil Store 1 Cell 1 Fn 1 CellStore 1 CellLoad 1 Call Return Print CellLoad Print Nil Return", trials.Locals(2), trials.Consts(0), trials.Handlers(9, 10, 11, 0)),
		trials.Fn("Up Const Bin 1 UpStore Up 1 Call Return", trials.Caps(api.Cap{}, api.Cap{N: 1}), trials.Consts(1)),
	}
	g := ofFirst(trials.Graph(0, "Up n0; Value Int n1; IntBin 0 1 Add s0; UpStore 2 n0 s0; Up n1; Call 4 s1; Return 5", "0:; 5: 4"))
	wantOut(t, p, nil, "deep", "127")
	wantOut(t, p, []api.Graph{g}, "deep", "127")
	if o := run(t, p, []api.Graph{g}, plenty, 1000); o.Fuel != 1000-128 {
		t.Error(o)
	}
}
