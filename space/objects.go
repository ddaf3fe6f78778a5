package space

import (
	"slices"

	"gearbox/api"
	"gearbox/plain"
)

// objects are those of a space. Numbers of objects that were collected are given out once more.
type objects struct {
	store api.Store
	words []int   // of each object
	met   []int   // of each object: the last turn in which it was met
	turn  int     // how often it was asked what values lead to
	free  []int64 // numbers that are no object's
	used  int     // the words of all objects
}

// add: a new object, in values of its own.
func (o *objects) add(made api.Obj, words int) api.Val {
	made.L = slices.Clone(made.L)
	o.used += words
	if last := len(o.free) - 1; last >= 0 {
		n := o.free[last]
		o.free = o.free[:last]
		o.store[n-1], o.words[n-1] = made, words
		return api.Val{Kind: made.Kind, N: n}
	}
	o.store, o.words, o.met = append(o.store, made), append(o.words, words), append(o.met, 0)
	return api.Val{Kind: made.Kind, N: int64(len(o.store))}
}

// change: an object has other values; where words were asked for it is one that has other words then.
func (o *objects) change(c plain.Change, asked int) {
	c.On(o.store)
	if asked > 0 {
		words := plain.Words(o.store[c.Of-1])
		o.used += words - o.words[c.Of-1]
		o.words[c.Of-1] = words
	}
}

// keep: those alone are there that were met in this turn.
func (o *objects) keep() {
	o.used, o.free = 0, o.free[:0]
	for i, met := range o.met {
		if met == o.turn {
			o.used += o.words[i]
			continue
		}
		o.store[i] = api.Obj{}
		o.free = append(o.free, int64(i)+1)
	}
}

// meet: how many words these values lead to that were not met in this turn. Objects may lie deeper in one another than calls should, so that those that are to be gone to are kept in a list.
func (o *objects) meet(values []api.Val) int {
	words := 0
	var todo []int64
	see := func(l []api.Val) {
		for _, v := range l {
			if v.Kind >= api.Text && o.met[v.N-1] != o.turn {
				o.met[v.N-1] = o.turn
				words += o.words[v.N-1]
				todo = append(todo, v.N)
			}
		}
	}
	see(values)
	for len(todo) > 0 {
		last := len(todo) - 1
		n := todo[last]
		todo = todo[:last]
		see(o.store[n-1].L)
	}
	return words
}
