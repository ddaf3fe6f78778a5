package trials

import (
	"strings"

	"gearbox/api"
)

// NodeWords: what nodes are called, by their Op.
func NodeWords() []string {
	return strings.Fields("NoNone NoSlot NoPhi NoConst NoValue NoCell NoCellLoad NoCellStore NoUp NoUpStore NoBin NoNot NoNeg NoLen NoShow NoIntBin NoGuard NoList NoMap NoGet NoPut NoFn NoCall NoPrint")
}

// EndWords: what ends of blocks are called, by their number.
func EndWords() []string {
	return strings.Fields("BkNone BkJump BkUnless BkLoop BkReturn BkThrow")
}

// Node: one as words: its name without the No; its Args; nN, or the name of a Bin; a Kind; sState.
func Node(s string) api.Node {
	l := lineOf(s)
	op := index(NodeWords(), "No"+l.name)
	return api.Node{Op: api.NodeOp(op), Args: l.args, N: l.n, Kind: l.kind, State: l.one('s')}
}

// end: a block without nodes as words: its end's name without the Bk; its Args; >Next of each; sState.
func end(s string) api.Block {
	l := lineOf(s)
	op := index(EndWords(), "Bk"+l.name)
	return api.Block{End: api.EndOp(op), Args: l.args, Next: l.signed['>'], State: l.one('s')}
}

// Graph: one that is come into at the place 0 with so many slots, of the function 0: blocks, each behind a bar; in each its nodes, whose numbers are 0, 1, .., and its end, each behind a semicolon. Then states (Pc: slots), each behind a semicolon.
func Graph(slots int, blocks, states string) api.Graph {
	g := api.Graph{Slots: slots}
	for _, s := range Between(blocks, "|") {
		l := Between(s, ";")
		b := end(l[len(l)-1])
		for _, node := range l[:len(l)-1] {
			b.Nodes = append(b.Nodes, len(g.Nodes))
			g.Nodes = append(g.Nodes, Node(node))
		}
		g.Blocks = append(g.Blocks, b)
	}
	for _, s := range Between(states, ";") {
		pc, slots, _ := strings.Cut(s, ":")
		x := api.State{Pc: number(pc)}
		for _, slot := range strings.Fields(slots) {
			x.Slots = append(x.Slots, slotOf(slot))
		}
		g.States = append(g.States, x)
	}
	Ahead(g)
	return g
}

// slotOf: a node's number, or nil.
func slotOf(s string) int {
	if s == "nil" {
		return -1
	}
	return number(s)
}

// Ahead: the blocks of a graph are told which are ahead of them.
func Ahead(g api.Graph) {
	for b := range g.Blocks {
		g.Blocks[b].Ahead = nil
	}
	for b, x := range g.Blocks {
		for _, to := range x.Next {
			if to < 0 || to >= len(g.Blocks) {
				continue
			}
			if ahead := g.Blocks[to].Ahead; len(ahead) == 0 || ahead[len(ahead)-1] != b {
				g.Blocks[to].Ahead = append(ahead, b)
			}
		}
	}
}
