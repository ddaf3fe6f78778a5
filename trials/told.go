package trials

import (
	"slices"
	"strconv"
	"strings"

	"gearbox/api"
)

// Tell: a graph as text, whatever numbers are in it.
func Tell(g api.Graph) string {
	w := &strings.Builder{}
	row(w, "graph of", g.Fn, "from", g.Pc, "with", g.Slots, "slots,", len(g.Nodes), "nodes")
	for b, k := range g.Blocks {
		row(w, "block", b, "ahead", k.Ahead)
		for _, n := range k.Nodes {
			if n < 0 || n >= len(g.Nodes) {
				row(w, " ", n, "which is none")
				continue
			}
			x := g.Nodes[n]
			row(w, " ", n, wordOf(NodeWords(), int(x.Op)), x.Args, "n", int(x.N), "kind", int(x.Kind), "state", x.State)
		}
		row(w, " ", wordOf(EndWords(), int(k.End)), k.Args, "to", k.Next, "state", k.State)
	}
	for n, s := range g.States {
		row(w, "state", n, "at", s.Pc, s.Slots)
	}
	return w.String()
}

func wordOf(words []string, n int) string {
	if n < len(words) {
		return words[n]
	}
	return "none " + strconv.Itoa(n)
}

// row: words, numbers and lists of numbers.
func row(w *strings.Builder, l ...any) {
	for _, x := range l {
		switch x := x.(type) {
		case string:
			w.WriteString(x)
		case int:
			w.WriteString(strconv.Itoa(x))
		case []int:
			for _, n := range x {
				w.WriteString(strconv.Itoa(n) + " ")
			}
			w.WriteString(";")
		}
		w.WriteString(" ")
	}
	w.WriteString("\n")
}

// SameGraph: are two graphs the same? Empty and nil are.
func SameGraph(a, b api.Graph) bool {
	return a.Fn == b.Fn && a.Pc == b.Pc && a.Slots == b.Slots && slices.EqualFunc(a.Nodes, b.Nodes, sameNode) && slices.EqualFunc(a.Blocks, b.Blocks, sameBlock) && slices.EqualFunc(a.States, b.States, sameState)
}

func sameNode(a, b api.Node) bool {
	return a.Op == b.Op && slices.Equal(a.Args, b.Args) && a.N == b.N && a.Kind == b.Kind && a.State == b.State
}

func sameBlock(a, b api.Block) bool {
	return slices.Equal(a.Nodes, b.Nodes) && a.End == b.End && slices.Equal(a.Args, b.Args) && slices.Equal(a.Next, b.Next) && slices.Equal(a.Ahead, b.Ahead) && a.State == b.State
}

func sameState(a, b api.State) bool { return a.Pc == b.Pc && slices.Equal(a.Slots, b.Slots) }
