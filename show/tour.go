package show

import "gearbox/api"

// lead: the object that a value leads to; false: there is none.
func lead(s api.Store, v api.Val) (api.Obj, bool) {
	if v.Kind < api.Text || v.Kind > api.Cell || v.N < 1 || v.N > int64(len(s)) {
		return api.Obj{}, false
	}
	o := s[v.N-1]
	if o.Kind != v.Kind {
		return api.Obj{}, false
	}
	return o, true
}

// tour goes to objects of a store, to each once.
type tour struct {
	store api.Store
	met   map[int64]int // how often, by their numbers
	todo  []int64       // those that were not gone to yet: a list, since objects may lie deeper in one another than calls should
}

func tourOf(s api.Store) *tour { return &tour{store: s, met: map[int64]int{}} }

// meet: the objects that these values lead to are to be gone to.
func (t *tour) meet(l ...api.Val) {
	for _, v := range l {
		if _, ok := lead(t.store, v); !ok {
			continue
		}
		t.met[v.N]++
		if t.met[v.N] == 1 {
			t.todo = append(t.todo, v.N)
		}
	}
}

// each goes to all objects that were met, and to those that visit meets in turn; false as soon as visit says so.
func (t *tour) each(visit func(o api.Obj) bool) bool {
	for len(t.todo) > 0 {
		last := len(t.todo) - 1
		n := t.todo[last]
		t.todo = t.todo[:last]
		if !visit(t.store[n-1]) {
			return false
		}
	}
	return true
}

// words: how many an object has in a heap.
func words(o api.Obj) int {
	switch o.Kind {
	case api.Text:
		return 2 + (len(o.S)+7)/8
	case api.Func:
		return 2 + 2*len(o.L)
	case api.List, api.Map:
		if o.Room > 0 {
			return 4 + 2*o.Room
		}
	}
	return 3
}
