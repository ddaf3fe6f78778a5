package prim_test

import (
	"runtime"
	"slices"
	"strings"
	"testing"

	"gearbox/api"
	"gearbox/prim"
	"gearbox/show"
)

// noughts: so many.
func noughts(n int) []api.Val { return slices.Repeat([]api.Val{num(0)}, n) }

// upTo: so many numbers.
func upTo(n int) []api.Val {
	l := make([]api.Val, n)
	for i := range l {
		l[i] = num(int64(i))
	}
	return l
}

// pairsUpTo: so many keys, each with itself.
func pairsUpTo(n int) []api.Val {
	l := make([]api.Val, 2*n)
	for i := range l {
		l[i] = num(int64(i / 2))
	}
	return l
}

// P11.3: at most MaxItems items; but a value that may not be is told ahead of that, wherever it is.
func TestListItems(t *testing.T) {
	s := api.Store{listOf(list(9)), cellOf(none)}
	wantMade(t, s, row("List", upTo(api.MaxItems)...), listOf(upTo(api.MaxItems)...), 4+2*api.MaxItems)
	for _, n := range []int{api.MaxItems + 1, 2 * api.MaxItems, 2*api.MaxItems + 1, 5 * api.MaxItems} {
		wantThrown(t, s, row("List", noughts(n)...), "items")
	}
	for _, v := range []api.Val{list(1), cell(2), text(0), val(api.Bool, 3), list(3), val(api.Nil, 1)} {
		for _, n := range []int{api.MaxItems - 1, api.MaxItems, api.MaxItems + 1, 2*api.MaxItems - 1, 2 * api.MaxItems, 3 * api.MaxItems} {
			l := noughts(n + 1)
			l[n] = v
			wantThrown(t, s, row("List", l...), "kind")
			l[n], l[0] = none, v
			wantThrown(t, s, row("List", l...), "kind")
		}
	}
}

// P11.3: at most MaxItems pairs, though their keys were the same; an odd number, and a value that may not be, are told ahead of that.
func TestMapItems(t *testing.T) {
	s := api.Store{listOf(list(9)), cellOf(none)}
	wantMade(t, s, row("Map", pairsUpTo(api.MaxItems)...), mapOf(pairsUpTo(api.MaxItems)...), 4+4*api.MaxItems)
	wantMade(t, s, row("Map", noughts(2*api.MaxItems)...), with(2*api.MaxItems, mapOf(num(0), num(0))), 4+4*api.MaxItems)
	for _, n := range []int{2*api.MaxItems + 2, 4 * api.MaxItems, 5 * api.MaxItems} {
		wantThrown(t, s, row("Map", noughts(n)...), "items")
		wantThrown(t, s, row("Map", noughts(n-1)...), "kind")
		wantThrown(t, s, row("Map", noughts(n+1)...), "kind")
		l := noughts(n)
		l[n-1] = cell(2)
		wantThrown(t, s, row("Map", l...), "kind")
		l[n-1], l[0] = none, list(1)
		wantThrown(t, s, row("Map", l...), "kind")
	}
}

// P11.3: a Map of as many Texts as may be, each of them twice.
func TestMapOfTexts(t *testing.T) {
	const n = api.MaxItems
	var s api.Store
	var l, once []api.Val
	for i := range n {
		s = append(s, says(string([]byte{byte(i), byte(i >> 8 & 127)})))
		l = append(l, text(int64(i)+1), num(int64(i)))
	}
	for i := range n / 2 {
		once = append(once, text(int64(i)+1), num(int64(i+n/2)))
	}
	wantMade(t, s, row("Map", l...), with(2*n, mapOf(once...)), 4+4*n)
}

// P11.4: a List that is full takes no more items, but others for those that it has.
func TestPutFullList(t *testing.T) {
	l := upTo(api.MaxItems)
	for _, room := range []int{api.MaxItems, api.MaxItems + 1, 4 * api.MaxItems} {
		s := api.Store{with(room, listOf(l...))}
		wantThrown(t, s, put(list(1), num(api.MaxItems), yes), "items")
		wantThrown(t, s, put(list(1), num(api.MaxItems+1), yes), "bounds")
		w := slices.Clone(l)
		w[api.MaxItems-1] = yes
		wantPut(t, s, put(list(1), num(api.MaxItems-1), yes), 1, with(room, listOf(w...)), 0)
		wantVal(t, s, get(list(1), num(api.MaxItems-1)), num(api.MaxItems-1))
		wantThrown(t, s, get(list(1), num(api.MaxItems)), "bounds")
		wantVal(t, s, one("Len", list(1)), num(api.MaxItems))
	}
	s := api.Store{listOf(l[1:]...)}
	w := append(slices.Clone(l[1:]), none)
	wantPut(t, s, put(list(1), num(api.MaxItems-1), none), 1, with(2*api.MaxItems-2, listOf(w...)), 4*api.MaxItems-3)
	if d := prim.Put(s, list(1), num(api.MaxItems-1), none); !show.Check(d.Store, list(1)) {
		t.Error("a List that may not be")
	}
}

// P11.4: a Map that is full takes no more keys, but other values for those that it has.
func TestPutFullMap(t *testing.T) {
	l := pairsUpTo(api.MaxItems)
	for _, room := range []int{2 * api.MaxItems, 2*api.MaxItems + 1, 4 * api.MaxItems} {
		s := api.Store{with(room, mapOf(l...))}
		wantThrown(t, s, put(dict(1), num(api.MaxItems), yes), "items")
		wantThrown(t, s, put(dict(1), none, yes), "items")
		w := slices.Clone(l)
		w[2*api.MaxItems-1] = yes
		wantPut(t, s, put(dict(1), num(api.MaxItems-1), yes), 1, with(room, mapOf(w...)), 0)
		wantVal(t, s, get(dict(1), num(api.MaxItems-1)), num(api.MaxItems-1))
		wantVal(t, s, get(dict(1), num(api.MaxItems)), none)
		wantVal(t, s, one("Len", dict(1)), num(api.MaxItems))
	}
	for room, grown := range map[int]int{2*api.MaxItems - 2: 4*api.MaxItems - 4, 2*api.MaxItems - 1: 4*api.MaxItems - 2, 2 * api.MaxItems: 2 * api.MaxItems} {
		s := api.Store{with(room, mapOf(l[2:]...))}
		words := 1 + 2*grown
		if room == grown {
			words = 0
		}
		wantPut(t, s, put(dict(1), none, yes), 1, with(grown, mapOf(append(slices.Clone(l[2:]), none, yes)...)), words)
		if d := prim.Put(s, dict(1), none, yes); !show.Check(d.Store, dict(1)) {
			t.Error("a Map that may not be")
		}
	}
}

// P11.4: a List that grows from nothing, item by item, asks for words each time its Room is doubled.
func TestGrowsFromNothing(t *testing.T) {
	s := api.Store{listOf(), mapOf()}
	room, words := 0, 0
	for i := range 3000 {
		d := prim.Put(s, list(1), num(int64(i)), num(int64(-i)))
		if i == room {
			room = max(4, 2*room)
			words = 1 + 2*room
		}
		o := d.Store[0]
		if d.Thrown != "" || d.Words != words || o.Room != room || len(o.L) != i+1 || o.L[i] != num(int64(-i)) || len(d.Store) != 2 {
			t.Fatalf("%d: %s", i, brief(d))
		}
		s, words = d.Store, 0
	}
}

// R1: as many values as may be, that lead to objects deep in one another, are gone through once.
func TestManyThatLeadFar(t *testing.T) {
	const n = 60000
	s := make(api.Store, n)
	var l, cells []api.Val
	for i := range s {
		s[i] = listOf(list(int64(min(i+2, n))))
		l = append(l, list(int64(i)+1))
	}
	wantMade(t, s, row("List", l...), listOf(l...), 4+2*n)
	wantMade(t, s, row("Map", l...), mapOf(l...), 4+2*n)
	s[n-1].Fn = 1
	wantThrown(t, s, row("List", l...), "kind")
	wantThrown(t, s, row("Map", l...), "kind")
	for i := range s {
		s[i] = cellOf(fn(int64(i) + 2))
		if i%2 == 1 {
			s[i] = fnOf(1, cell(int64((i+1)%n)+1))
		} else {
			cells = append(cells, cell(int64(i)+1))
		}
	}
	wantMade(t, s, newFn(1, cells...), fnOf(1, cells...), 2+n)
	s[n-1].Room = 1
	wantThrown(t, s, newFn(1, cells...), "kind")
}

// R1: values of numbers far behind the store's ask for no memory.
func TestNumbersFarBehind(t *testing.T) {
	l := upTo(40000)
	for i := range l {
		l[i] = list(int64(i+1) << 32)
	}
	s := api.Store{listOf(l...), listOf(list(1<<40), list(greatest), list(least))}
	var ahead, behind runtime.MemStats
	runtime.ReadMemStats(&ahead)
	for _, c := range []call{row("List", l...), row("List", list(1)), row("Map", list(1), none), row("List", none)} {
		c.on(s)
	}
	runtime.ReadMemStats(&behind)
	if asked := behind.TotalAlloc - ahead.TotalAlloc; asked > 1<<26 {
		t.Errorf("%d bytes", asked)
	}
	wantMade(t, s, row("List", none), listOf(none), 6)
}

// Texts that stand in the store and are longer than may be, or lists, stay as they are, if nothing leads to them.
func TestGreatObjectsStay(t *testing.T) {
	s := api.Store{says(strings.Repeat("x", 1<<20)), listOf(noughts(3 * api.MaxItems)...), mapOf(noughts(5)...), with(1<<40, listOf()), fnOf(1<<40, none)}
	wantVal(t, s, bin(api.Add, num(1), num(2)), num(3))
	wantMade(t, s, row("List", num(1)), listOf(num(1)), 6)
	wantMade(t, s, newText("x"), says("x"), 3)
	for i, o := range s {
		wantThrown(t, s, one("Show", val(o.Kind, int64(i)+1)), "kind")
		wantThrown(t, s, row("List", val(o.Kind, int64(i)+1)), "kind")
	}
}
