package graph

// forest is how Lengauer and Tarjan find what is right above: going back through a walk, its places are hung under those from which they were come to. Sets of all that is above would have as many members as there are pairs of blocks.
type forest struct {
	semi []int // of each place: the first one from which a way leads to it through later places alone
	up   []int // what it hangs under, or one further up
	best []int // of those from it up to there: the one whose semi is the first
}

func newForest(places int) *forest {
	f := &forest{semi: make([]int, places), up: make([]int, places), best: make([]int, places)}
	for n := range places {
		f.semi[n], f.up[n], f.best[n] = n, none, n
	}
	return f
}

// over: of each place of a walk the one right above it; above the first one is none.
func (w *walk) over() []int {
	f := newForest(len(w.blocks))
	over := make([]int, len(w.blocks))
	waiting := make([][]int, len(w.blocks)) // of each place: those whose semi it is
	for n := len(w.blocks) - 1; n > 0; n-- {
		for _, a := range w.ahead[n] {
			f.semi[n] = min(f.semi[n], f.semi[f.find(a)])
		}
		waiting[f.semi[n]] = append(waiting[f.semi[n]], n)
		f.up[n] = w.from[n]
		for _, v := range waiting[w.from[n]] {
			over[v] = w.from[n]
			if u := f.find(v); f.semi[u] < f.semi[v] {
				over[v] = u // what is right above that is right above this one, too
			}
		}
		waiting[w.from[n]] = nil
	}
	for n := range over {
		if n == 0 {
			over[n] = none
		} else if over[n] != f.semi[n] {
			over[n] = over[over[n]]
		}
	}
	return over
}

// find: of the places from one up to the one that nothing is over, without that, the one whose semi is the first.
func (f *forest) find(n int) int {
	if f.up[n] == none {
		return n
	}
	var path []int
	for x := n; f.up[f.up[x]] != none; x = f.up[x] {
		path = append(path, x)
	}
	for i := len(path) - 1; i >= 0; i-- {
		x := path[i]
		a := f.up[x]
		if f.semi[f.best[a]] < f.semi[f.best[x]] {
			f.best[x] = f.best[a]
		}
		f.up[x] = f.up[a]
	}
	return f.best[n]
}
