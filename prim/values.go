package prim

import (
	"slices"

	"gearbox/api"
	"gearbox/show"
)

// mayBe: may these values be, in the store?
func mayBe(s api.Store, l ...api.Val) bool {
	for _, v := range l {
		if !show.Check(s, v) {
			return false
		}
	}
	return true
}

// mayAllBe: likewise, of any number of values, none of them a cell, which are asked as the items of lists: what several of them lead to is gone through once.
func mayAllBe(s api.Store, l []api.Val) bool {
	for items := range slices.Chunk(l, api.MaxItems) {
		if !mayHold(s, api.Obj{Kind: api.List, L: items, Room: len(items)}) {
			return false
		}
	}
	return true
}

// mayHold: may an object be that holds its values beside those of the store?
func mayHold(s api.Store, o api.Obj) bool {
	n := freeNumber(s, o)
	wide := append(slices.Clone(s), make(api.Store, n-len(s))...)
	wide[n-1] = o
	return show.Check(wide, api.Val{Kind: o.Kind, N: int64(n)})
}

// freeNumber: the first one behind the store's that no value of the object's kind has: what leads nowhere would lead to the object else.
func freeNumber(s api.Store, o api.Obj) int {
	taken := map[int64]int{}
	take := func(l []api.Val) {
		for _, v := range l {
			if v.Kind == o.Kind && v.N > int64(len(s)) {
				taken[v.N]++
			}
		}
	}
	take(o.L)
	for _, x := range s {
		take(x.L)
	}
	n := len(s) + 1
	for taken[int64(n)] > 0 {
		n++
	}
	return n
}
