package prim

import "gearbox/api"

// For how many values a List or a Map has room, at least, behind what lets it grow.
const (
	listRoom = 4
	mapRoom  = 8
)

// eachKeyOnce: keys with their values, of those that are the same the first key and the last value. Keys are looked up, since there may be too many of them to hold each against all others.
func eachKeyOnce(s api.Store, l []api.Val) []api.Val {
	var once []api.Val
	places := map[essence]int{}
	for i := 0; i < len(l); i += 2 {
		k := essenceOf(s, l[i])
		at, ok := places[k]
		if !ok {
			at = len(once)
			places[k] = at
			once = append(once, l[i], api.Val{})
		}
		once[at+1] = l[i+1]
	}
	return once
}

// keyAt: where a key stands among a Map's values; false: there is none.
func keyAt(s api.Store, l []api.Val, k api.Val) (int, bool) {
	for i := 0; i < len(l); i += 2 {
		if same(s, l[i], k) {
			return i, true
		}
	}
	return 0, false
}

// valueOf: the value of a Map's key; nil, if there is none.
func valueOf(s api.Store, l []api.Val, k api.Val) api.Val {
	if i, ok := keyAt(s, l, k); ok {
		return l[i+1]
	}
	return api.Val{}
}

func getItem(s api.Store, l []api.Val, at int64) Did {
	if at < 0 || at >= int64(len(l)) {
		return throws(s, outside)
	}
	return comesTo(s, l[at])
}

func getByte(s api.Store, t string, at int64) Did {
	if at < 0 || at >= int64(len(t)) {
		return throws(s, outside)
	}
	return Text(s, t[at:at+1])
}

func putItem(s api.Store, v api.Val, at int64, x api.Val) Did {
	n := int64(len(object(s, v).L))
	switch {
	case at < 0 || at > n:
		return throws(s, outside)
	case at < n:
		return sets(s, v, int(at), x)
	case n == api.MaxItems:
		return throws(s, tooMany)
	}
	return adds(s, v, listRoom, x)
}

func putPair(s api.Store, v, k, x api.Val) Did {
	l := object(s, v).L
	if i, ok := keyAt(s, l, k); ok {
		return sets(s, v, i+1, x)
	}
	if len(l) == 2*api.MaxItems {
		return throws(s, tooMany)
	}
	return adds(s, v, mapRoom, k, x)
}

// sets: x stands at a place of a List or a Map.
func sets(s api.Store, v api.Val, at int, x api.Val) Did {
	d := comesTo(s, api.Val{})
	d.Store[v.N-1].L[at] = x
	return d
}

// adds: a List or a Map has more values, behind the others; where there is no room for them there is twice as much then, or the least.
func adds(s api.Store, v api.Val, least int, more ...api.Val) Did {
	d := comesTo(s, api.Val{})
	o := &d.Store[v.N-1]
	o.L = append(o.L, more...)
	if o.Room < len(o.L) {
		o.Room = max(least, 2*o.Room)
		d.Words = 1 + 2*o.Room
	}
	return d
}
