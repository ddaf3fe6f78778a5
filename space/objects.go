package space

import (
	"slices"

	"gearbox/api"
	"gearbox/plain"
)

// objects are those of a space. Numbers of objects that were collected are given out once more.
type objects struct {
	store api.Store
	words []int   // of each object
	free  []int64 // numbers that are no object's
	used  int     // the words of all objects
}

// add: a new object, in values of its own.
func (o *objects) add(made api.Obj, words int) api.Val {
	made.L = slices.Clone(made.L)
	o.used += words
	if last := len(o.free) - 1; last >= 0 {
		n := o.free[last]
		o.free = o.free[:last]
		o.store[n-1], o.words[n-1] = made, words
		return api.Val{Kind: made.Kind, N: n}
	}
	o.store, o.words = append(o.store, made), append(o.words, words)
	return api.Val{Kind: made.Kind, N: int64(len(o.store))}
}

// change: an object has other values; where words were asked for it is one that has other words then.
func (o *objects) change(c plain.Change, asked int) {
	c.On(o.store)
	if asked > 0 {
		words := plain.Words(o.store[c.Of-1])
		o.used += words - o.words[c.Of-1]
		o.words[c.Of-1] = words
	}
}

// keep: of all objects these alone are there.
func (o *objects) keep(reached []bool) {
	o.used, o.free = 0, o.free[:0]
	for i, is := range reached {
		if is {
			o.used += o.words[i]
			continue
		}
		o.store[i] = api.Obj{}
		o.free = append(o.free, int64(i)+1)
	}
}

// wordsOf: of some objects, how many words they have.
func (o *objects) wordsOf(which []bool) int {
	n := 0
	for i, is := range which {
		if is {
			n += o.words[i]
		}
	}
	return n
}

// reached: of each object, whether the roots lead to it.
func (o *objects) reached(roots []api.Val) []bool {
	return o.reachedBeside(make([]bool, len(o.store)), roots)
}

// reachedBeside: those that were met, and those that some roots lead to beside. Objects may lie deeper in one another than calls should, so that those that are to be gone to are kept in a list.
func (o *objects) reachedBeside(met []bool, roots []api.Val) []bool {
	var todo []int64
	meet := func(l []api.Val) {
		for _, v := range l {
			if v.Kind >= api.Text && !met[v.N-1] {
				met[v.N-1] = true
				todo = append(todo, v.N)
			}
		}
	}
	meet(roots)
	for len(todo) > 0 {
		last := len(todo) - 1
		n := todo[last]
		todo = todo[:last]
		meet(o.store[n-1].L)
	}
	return met
}
