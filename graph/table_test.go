package graph_test

import (
	"slices"
	"strconv"
	"strings"
	"testing"

	"gearbox/api"
	"gearbox/graph"
	"gearbox/trials"
	"gearbox/verify"
)

// table: the chapter's, a line for each row: its name, how many Args, what N and Kind are, whether it has a State.
const table = `
NoSlot 0 slot
NoPhi ahead 0
NoConst 0 const state
NoValue 0 value
NoCell 1 0 state
NoCellLoad 1 0 state
NoCellStore 2 0 state
NoUp 0 cap
NoUpStore 1 cap state
NoBin 2 bin state
NoIntBin 2 intbin state
NoNot 1 0 state
NoNeg 1 0 state
NoLen 1 0 state
NoShow 1 0 state
NoGuard 1 kind state
NoList any 0 state
NoMap even 0 state
NoGet 2 0 state
NoPut 3 0 state
NoFn cells fn state
NoCall called 0 state
NoPrint 1 0 state
`

// endTable: likewise, of ends: how many Args, where each Next is, whether it has a State.
const endTable = `
BkJump 0 above
BkUnless 1 above above state
BkLoop 0 back state
BkReturn 1
BkThrow 1 state
`

// rowsOf: a table's, by their names.
func rowsOf(table string) map[string][]string {
	m := map[string][]string{}
	for _, line := range trials.Between(table, "\n") {
		l := strings.Fields(line)
		m[l[0]] = l[1:]
	}
	return m
}

var rowOf, endRowOf = rowsOf(table), rowsOf(endTable)

// teller says of a graph whether it may be, as the chapter says it.
type teller struct {
	p      api.Program
	f      api.Fn
	depths []int
	g      api.Graph
	above  [][]int
}

// tells: may it be a graph of a function of a program that may be?
func tells(p api.Program, g api.Graph) bool {
	if g.Fn < 0 || g.Fn >= len(p) {
		return false
	}
	depths, _ := verify.Depths(p, g.Fn)
	t := teller{p: p, f: p[g.Fn], depths: depths, g: g}
	if !t.cameTo(g.Pc, g.Slots) || len(g.Blocks) == 0 || !t.stood() || !t.tellsBlocks() {
		return false
	}
	for _, s := range g.States {
		if !t.cameTo(s.Pc, len(s.Slots)) {
			return false
		}
		for _, n := range s.Slots {
			if n != -1 && !t.is(n) {
				return false
			}
		}
	}
	t.above = slow(g)
	for b, x := range g.Blocks {
		for at := range x.Nodes {
			if !t.tellsNode(b, at) || !t.tellsUses(b, at) {
				return false
			}
		}
		if !t.allReached(x.Args, x.State, b, len(x.Nodes)) {
			return false
		}
	}
	return true
}

func (t *teller) is(n int) bool { return 0 <= n && n < len(t.g.Nodes) }

func (t *teller) cameTo(pc, slots int) bool {
	return 0 <= pc && pc < len(t.depths) && t.depths[pc] != -1 && slots == t.f.Locals+t.depths[pc]
}

// stood: each node stands in just one block, once.
func (t *teller) stood() bool {
	var all []int
	for _, x := range t.g.Blocks {
		all = append(all, x.Nodes...)
	}
	slices.Sort(all)
	for k, n := range all {
		if k != n {
			return false
		}
	}
	return len(all) == len(t.g.Nodes)
}

func (t *teller) tellsBlocks() bool {
	for b, x := range t.g.Blocks {
		if int(x.End) >= len(trials.EndWords()) {
			return false
		}
		row, is := endRowOf[trials.EndWords()[x.End]]
		if !is || strconv.Itoa(len(x.Args)) != row[0] {
			return false
		}
		state := slices.Contains(row, "state")
		if !t.tellsState(x.State, state) {
			return false
		}
		var where []string
		for _, to := range x.Next {
			switch {
			case to < 0 || to >= len(t.g.Blocks):
				return false
			case to > b:
				where = append(where, "above")
			case to > 0:
				where = append(where, "back")
			default:
				where = append(where, "first")
			}
		}
		if state {
			where = append(where, "state")
		}
		if !slices.Equal(where, row[1:]) || len(x.Next) == 2 && x.Next[0] == x.Next[1] {
			return false
		}
		var ahead []int
		below := b == 0
		for a, y := range t.g.Blocks {
			if slices.Contains(y.Next, b) {
				ahead, below = append(ahead, a), below || a < b
			}
		}
		if !slices.Equal(ahead, x.Ahead) || !below {
			return false
		}
	}
	return true
}

func (t *teller) tellsState(n int, has bool) bool {
	return !has && n == -1 || has && n >= 0 && n < len(t.g.States)
}

// tellsNode: is a node of a block one of the rows?
func (t *teller) tellsNode(b, at int) bool {
	l := t.g.Blocks[b].Nodes
	x := t.g.Nodes[l[at]]
	if int(x.Op) >= len(trials.NodeWords()) {
		return false
	}
	row, is := rowOf[trials.NodeWords()[x.Op]]
	if !is || !t.tellsState(x.State, slices.Contains(row, "state")) || !t.tellsNumber(x, row[1]) || !t.tellsArgs(b, x, row[0]) {
		return false
	}
	switch x.Op {
	case api.NoSlot:
		for other, y := range t.g.Nodes {
			if y.Op == api.NoSlot && y.N == x.N && other != l[at] {
				return false
			}
		}
		return b == 0
	case api.NoPhi:
		for _, n := range l[:at] {
			if t.g.Nodes[n].Op != api.NoPhi {
				return false
			}
		}
		return b != 0
	}
	return true
}

func (t *teller) tellsNumber(x api.Node, what string) bool {
	switch what {
	case "kind":
		return x.N == 0 && slices.Contains([]api.Kind{api.Nil, api.Bool, api.Int, api.Text, api.List, api.Map, api.Func}, x.Kind)
	case "value":
		return x.Kind == api.Nil && x.N == 0 || x.Kind == api.Bool && (x.N == 0 || x.N == 1) || x.Kind == api.Int
	}
	if x.Kind != 0 {
		return false
	}
	below := func(n int) bool { return 0 <= x.N && x.N < int64(n) }
	switch what {
	case "slot":
		return below(t.g.Slots)
	case "const":
		return below(len(t.f.Consts))
	case "cap":
		return below(len(t.f.Caps))
	case "bin":
		return x.N >= 1 && x.N <= 9
	case "intbin":
		return x.N >= 1 && x.N <= 7
	case "fn":
		return below(len(t.p)) && slices.ContainsFunc(t.f.Code, func(i api.Ins) bool { return i.Op == api.OpFn && int64(i.A) == x.N })
	}
	return x.N == 0
}

func (t *teller) tellsArgs(b int, x api.Node, what string) bool {
	switch what {
	case "any":
		return true
	case "even":
		return len(x.Args)%2 == 0
	case "ahead":
		return len(x.Args) == len(t.g.Blocks[b].Ahead)
	case "cells":
		n := 0
		for _, k := range t.p[x.N].Caps {
			if !k.Up {
				n++
			}
		}
		return len(x.Args) == n
	case "called":
		i := t.f.Code[t.g.States[x.State].Pc]
		return i.Op == api.OpCall && i.A+1 == len(x.Args)
	}
	return strconv.Itoa(len(x.Args)) == what
}

// reached: does a node stand among the first so many of a block, or above it?
func (t *teller) reached(n, b, ahead int) bool {
	if !t.is(n) {
		return false
	}
	if slices.Contains(t.g.Blocks[b].Nodes[:ahead], n) {
		return true
	}
	for _, a := range t.above[b] {
		if a != b && slices.Contains(t.g.Blocks[a].Nodes, n) {
			return true
		}
	}
	return false
}

// tellsUses: those of a node that is one of the rows.
func (t *teller) tellsUses(b, at int) bool {
	x := t.g.Blocks[b]
	node := t.g.Nodes[x.Nodes[at]]
	if node.Op != api.NoPhi {
		return t.allReached(node.Args, node.State, b, at)
	}
	for k, n := range node.Args {
		from := x.Ahead[k]
		if !t.reached(n, from, len(t.g.Blocks[from].Nodes)) {
			return false
		}
	}
	return true
}

func (t *teller) allReached(args []int, state, b, ahead int) bool {
	for _, n := range args {
		if !t.reached(n, b, ahead) {
			return false
		}
	}
	if state == -1 {
		return true
	}
	for _, n := range t.g.States[state].Slots {
		if n != -1 && !t.reached(n, b, ahead) {
			return false
		}
	}
	return true
}

// wantCheck: what is answered of a graph, of a program that may be.
func wantCheck(t *testing.T, p api.Program, g api.Graph, may bool) {
	t.Helper()
	want := api.ErrForm
	if may {
		want = api.OK
	}
	if e := graph.Check(p, g); e != want {
		t.Errorf("%s%s: %d, want %d", brief(p), brief(g), e, want)
	}
}

// checked: what is answered is what the chapter says.
func checked(t *testing.T, p api.Program, g api.Graph) bool {
	t.Helper()
	may := tells(p, g)
	wantCheck(t, p, g, may)
	return may
}
