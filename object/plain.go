package object

import (
	"maps"
	"slices"

	"gearbox/api"
)

// tour goes through all objects that a value leads to through values.
type tour struct {
	memory
	met  map[int64]body // by their places
	todo []api.Val      // those whose values are still to be gone through: a list, since objects may lie deeper in one another than calls should
}

// walk goes to all of them; false, if there is one that may not be, or that has a value that it may not have.
func (t *tour) walk(v api.Val) bool {
	ok := t.meet(v)
	for ok && len(t.todo) > 0 {
		last := len(t.todo) - 1
		v, t.todo = t.todo[last], t.todo[:last]
		ok = t.through(v)
	}
	return ok
}

// meet: a value has been come to; false, if it leads to an object that may not be.
func (t *tour) meet(v api.Val) bool {
	if !tellsObject(v.Kind) {
		return true
	}
	if _, ok := t.met[v.N]; ok {
		return true
	}
	b, ok := t.find(v)
	if ok {
		t.met[v.N] = b
		t.todo = append(t.todo, v)
	}
	return ok
}

// through: the values of an object that was met have been come to.
func (t *tour) through(v api.Val) bool {
	mayHave := t.mayBeHeld
	switch v.Kind {
	case api.Text: // it has bytes alone
		return true
	case api.Func:
		mayHave = t.isCell
	}
	return t.each(t.met[v.N], func(_ int, x api.Val) bool { return mayHave(x) && t.meet(x) })
}

// places: of all objects that were met, rising.
func (t *tour) places() []int64 { return slices.Sorted(maps.Keys(t.met)) }

// store: the objects at these places, one behind the other.
func (t *tour) store(places []int64, n numbers) api.Store {
	var s api.Store
	for _, at := range places {
		s = append(s, t.object(at, n))
	}
	return s
}

// object: the one at a place, plainly.
func (t *tour) object(at int64, n numbers) api.Obj {
	b := t.met[at]
	k, _ := t.Kind(at)
	o := api.Obj{Kind: k, Room: b.room}
	switch k {
	case api.Text:
		o.S = t.said(at, b.count)
		return o
	case api.Func:
		o.Fn = t.fn(at)
	}
	o.L = t.values(b)
	for i, v := range o.L {
		o.L[i] = n.value(v)
	}
	return o
}

// numbers are those of objects in a store, by their places.
type numbers map[int64]int64

func numbered(places []int64) numbers {
	n := numbers{}
	for i, at := range places {
		n[at] = int64(i) + 1
	}
	return n
}

// value: as one of the store.
func (n numbers) value(v api.Val) api.Val {
	if tellsObject(v.Kind) {
		v.N = n[v.N]
	}
	return v
}
