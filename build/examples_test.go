package build_test

import (
	"slices"
	"testing"

	"gearbox/api"
	"gearbox/graph"
	"gearbox/trials"
)

// P17.1: the chapter's examples.
func TestExamples(t *testing.T) {
	p := of(t, "print 1 + 2;")
	whole := trials.Graph(0, "Value Int n1; Value Int n2; IntBin 0 1 Add s0; Print 2 s1; Value; Return 4", "2: 0 1; 3: 2")
	want(t, p, 0, 0, []int{2}, whole)
	o, e := graph.Run(p, []api.Graph{graphOf(t, p, 0, 0, []int{2})}, 1000, 100)
	if e != api.OK || o.End != api.EndDone || !slices.Equal(o.Out, []string{"3"}) || o.Fuel != 100 {
		t.Error(o, e)
	}
	any := trials.Graph(0, "Value Int n1; Value Int n2; Bin 0 1 Add s0; Print 2 s1; Value; Return 4", "2: 0 1; 3: 2")
	want(t, p, 0, 0, nil, any)
	wantError(t, p, 0, 1, nil, api.ErrArg)
}

// P17.1: ints that tell no place, or one without an OpBin, make no difference; one that is told twice none more; Same and Unlike are of any kind.
func TestInts(t *testing.T) {
	p := api.Program{trials.Fn("Yes No Bin 1 Nil Bin 2 Nil Bin 8 Nil Bin 9 Nil Bin 7 Nil Bin 5 Return")}
	for _, c := range []struct {
		ints []int
		want string
	}{
		{nil, "......"}, {[]int{}, "......"}, {[]int{2}, "i....."}, {[]int{4}, ".i...."}, {[]int{6}, "......"}, {[]int{8}, "......"}, {[]int{10}, "....i."}, {[]int{12}, ".....i"},
		{[]int{12, 2}, "i....i"}, {[]int{2, 2, 2}, "i....."}, {[]int{0, 1, 3, 5, 13}, "......"}, {[]int{-1, 14, 1 << 62, -1 << 63, 2 - 1<<63, 2 + 1<<32}, "......"},
		{[]int{14, 12, -3, 10, 9, 8, 6, 5, 4, 2, 2}, "ii..ii"},
	} {
		g := graphOf(t, p, 0, 0, c.ints)
		got := ""
		for _, x := range g.Nodes {
			switch x.Op {
			case api.NoIntBin:
				got += "i"
			case api.NoBin:
				got += "."
			}
		}
		if got != c.want {
			t.Errorf("%v: %s, want %s", c.ints, got, c.want)
		}
	}
}
