package graph_test

import (
	"math"
	"reflect"
	"slices"
	"testing"

	"gearbox/api"
	"gearbox/graph"
	"gearbox/samples"
)

// slow: what is above each block, by looking for ways that do without one.
func slow(g api.Graph) [][]int {
	ways := func(without int) map[int]bool {
		led := map[int]bool{}
		for todo := []int{0}; len(todo) > 0; {
			b := todo[len(todo)-1]
			todo = todo[:len(todo)-1]
			if b >= 0 && b < len(g.Blocks) && b != without && !led[b] {
				led[b] = true
				todo = append(todo, g.Blocks[b].Next...)
			}
		}
		return led
	}
	l := make([][]int, len(g.Blocks))
	led := ways(-1)
	for a := range g.Blocks {
		without := ways(a)
		for b := range g.Blocks {
			if !led[b] || !without[b] {
				l[b] = append(l[b], a)
			}
		}
	}
	return l
}

// leading: a graph of blocks that lead to these.
func leading(next ...[]int) api.Graph {
	var g api.Graph
	for _, l := range next {
		g.Blocks = append(g.Blocks, api.Block{Next: l})
	}
	return g
}

func wantAbove(t *testing.T, g api.Graph, want [][]int) {
	t.Helper()
	l := graph.Above(g)
	if len(l) != len(want) {
		t.Fatalf("%s: %v, want %v", brief(g), l, want)
	}
	for b := range want {
		if !slices.Equal(l[b], want[b]) {
			t.Fatalf("%s: above %d: %v, want %v", brief(g), b, l[b], want[b])
		}
	}
}

// P16.3: by hand.
func TestAboveWritten(t *testing.T) {
	type ints = [][]int
	for _, c := range []struct{ next, want [][]int }{
		{nil, nil},
		{ints{{}}, ints{{0}}},
		{ints{{0}}, ints{{0}}},
		{ints{{1}, {}}, ints{{0}, {0, 1}}},
		{ints{{}, {}}, ints{{0}, {0, 1}}},
		{ints{{1, 2}, {3}, {3}, {}}, ints{{0}, {0, 1}, {0, 2}, {0, 3}}},
		{ints{{1, 2}, {3}, {3, 9}, {}, {3}}, ints{{0}, {0, 1}, {0, 2}, {0, 3}, {0, 1, 2, 3, 4}}},
		{ints{{3}, {}, {1}, {2}}, ints{{0}, {0, 1, 2, 3}, {0, 2, 3}, {0, 3}}},
		// what no way leads to has all above it, and leads nowhere from where it counts
		{ints{{1}, {}, {1, 3}, {2}}, ints{{0}, {0, 1}, {0, 1, 2, 3}, {0, 1, 2, 3}}},
		// loops
		{ints{{1}, {2, 3}, {1}, {}}, ints{{0}, {0, 1}, {0, 1, 2}, {0, 1, 3}}},
		{ints{{1}, {1, 2}, {2, 0}}, ints{{0}, {0, 1}, {0, 1, 2}}},
		// two that lead to each other, and are both come to from ahead
		{ints{{1, 2}, {2}, {1}}, ints{{0}, {0, 1}, {0, 2}}},
		{ints{{1, 3}, {2}, {4}, {2}, {}}, ints{{0}, {0, 1}, {0, 2}, {0, 3}, {0, 2, 4}}},
		// a way from further below leads past the one in between
		{ints{{1, 3}, {2}, {}, {2}}, ints{{0}, {0, 1}, {0, 2}, {0, 3}}},
		// numbers that tell no blocks; one more than once
		{ints{{-1, 1, 1, 7, math.MaxInt, math.MinInt, 1, 2}, {2, 2}, {-1}}, ints{{0}, {0, 1}, {0, 2}}},
	} {
		wantAbove(t, leading(c.next...), c.want)
	}
}

// P16.3: of any graph, against the ways that there are; ends are not asked for.
func TestAboveAny(t *testing.T) {
	t.Parallel()
	met := map[int]int{}
	for seed := range 30000 {
		d := samples.Dice(seed)
		g := leading(make([][]int, d.Below(14))...)
		for b := range g.Blocks {
			g.Blocks[b].End = api.EndOp(d.Below(9))
			for range d.Below(1 + d.Below(4)) {
				g.Blocks[b].Next = append(g.Blocks[b].Next, d.Below(len(g.Blocks)+2)-1)
			}
			if b > 0 && d.Below(2) == 0 {
				from := &g.Blocks[d.Below(b)]
				from.Next = append(from.Next, b)
			}
		}
		want := slow(g)
		wantAbove(t, g, want)
		for b, l := range want {
			met[len(l)]++
			if l[0] != 0 { // P16.4
				t.Fatal(want, b)
			}
		}
	}
	for n := 1; n <= 8; n++ {
		if met[n] < 1000 {
			t.Error(n, met[n])
		}
	}
}

// P16.3: of graphs that may be; those above one have lesser numbers there.
func TestAboveOfGraphs(t *testing.T) {
	for seed := range 1000 {
		p, d := samples.Code(seed), samples.Dice(seed)
		for _, g := range graphsOf(t, &d, p, []making{samples.Graph, samples.Bypath}[seed%2], all) {
			want := slow(g)
			wantAbove(t, g, want)
			for b, l := range want {
				if l[0] != 0 || l[len(l)-1] != b {
					t.Fatal(want)
				}
			}
		}
	}
}

// R4: each list is new memory, spare room too; what is handed in is as it was.
func TestAboveMemory(t *testing.T) {
	g := leading([]int{1, 2}, []int{3}, []int{3, 4}, []int{5}, []int{5}, nil, []int{0}, nil)
	for b := range g.Blocks {
		g.Blocks[b].Next = append(g.Blocks[b].Next, 77)[:len(g.Blocks[b].Next)]
	}
	before := wholeOf(g)
	a, b := graph.Above(g), graph.Above(g)
	for _, l := range [][][]int{a, b} {
		for k := range l {
			l[k] = l[k][:cap(l[k])]
			for i := range l[k] {
				l[k][i] = 1000*k + i
			}
		}
	}
	for k := range b {
		a[k] = append(a[k], 5)
		b[k][0] = -k
	}
	for _, l := range [][][]int{a, b} {
		for k := range l {
			for i, n := range l[k] {
				if n != 1000*k+i && n != -k && n != 5 {
					t.Error(l)
				}
			}
		}
	}
	if !reflect.DeepEqual(wholeOf(g), before) {
		t.Error(g)
	}
	if c := graph.Above(g); !reflect.DeepEqual(c, slow(g)) {
		t.Error(c)
	}
	for k := range a {
		if k > 0 && a[k][0] != 1000*k {
			t.Error("two lists share", a[k])
		}
	}
}
