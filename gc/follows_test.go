package gc_test

import (
	"maps"
	"slices"
	"testing"

	"gearbox/api"
	"gearbox/gc"
	"gearbox/heap"
)

// plain is a heap told plainly: its objects by their places. What the chapter says of it is worked out here once more, word for word.
type plain map[int64]obj

// value: what two words hold, and whether that leads to an object.
func (p plain) value(kind, n uint64) (int64, bool) {
	if kind != w(api.Text) && kind != w(api.List) && kind != w(api.Map) && kind != w(api.Func) && kind != w(api.Cell) {
		return 0, false
	}
	o, ok := p[int64(n)]
	return int64(n), ok && w(o.kind) == kind
}

// words: of an object, the numbers of those that lead to another one, and to which.
func (p plain) words(o obj) map[int]int64 {
	m := map[int]int64{}
	first, last := 0, len(o.words)
	switch o.kind {
	case api.Text:
		return m
	case api.List, api.Map:
		if len(o.words) > 1 && o.words[1] != 0 {
			place := int64(o.words[1] - 1)
			if i, ok := p[place]; ok && i.kind == api.Items {
				m[1] = place
			}
		}
		return m
	case api.Func:
		first = 1
	case api.Cell:
		last = min(last, 2)
	}
	for i := first; i+1 < last; i += 2 {
		if to, ok := p.value(o.words[i], o.words[i+1]); ok {
			m[i+1] = to
		}
	}
	return m
}

// visit puts down what leads from a place on.
func (p plain) visit(place int64, seen map[int64]bool) {
	if seen[place] {
		return
	}
	seen[place] = true
	for _, to := range p.words(p[place]) {
		p.visit(to, seen)
	}
}

// may: may the roots be?
func (p plain) may(roots []api.Val) bool {
	for _, v := range roots {
		_, ok := p.value(uint64(v.Kind), uint64(v.N))
		if v.Kind >= api.Items || v.Kind >= api.Text && !ok {
			return false
		}
	}
	return true
}

// reach: the places that the roots lead to, rising, and their words.
func (p plain) reach(roots []api.Val) ([]int64, int) {
	seen := map[int64]bool{}
	for _, v := range roots {
		if place, ok := p.value(uint64(v.Kind), uint64(v.N)); ok {
			p.visit(place, seen)
		}
	}
	n := 0
	for place := range seen {
		n += 1 + len(p[place].words)
	}
	return slices.Sorted(maps.Keys(seen)), n
}

// collect: the heap and the roots behind a collection.
func (p plain) collect(roots []api.Val) (plain, []api.Val) {
	places, _ := p.reach(roots)
	to := map[int64]int64{}
	end := int64(0)
	for _, place := range places {
		to[place] = end
		end += 1 + int64(len(p[place].words))
	}
	after := plain{}
	for _, place := range places {
		o := p[place]
		words := slices.Clone(o.words)
		for i, other := range p.words(o) {
			words[i] = uint64(to[other])
			if o.kind == api.List || o.kind == api.Map {
				words[i]++
			}
		}
		after[to[place]] = obj{o.kind, words}
	}
	var l []api.Val
	for _, v := range roots {
		if place, ok := p.value(uint64(v.Kind), uint64(v.N)); ok {
			v.N = to[place]
		}
		l = append(l, v)
	}
	return after, l
}

// dice is a row of numbers that hangs on its start alone.
type dice uint64

func (d *dice) below(n int) int {
	*d = *d*6364136223846793005 + 1442695040888963407
	return int(uint64(*d) >> 33 % uint64(n))
}

// word is often a kind, a place, a place and one; sometimes any number.
func (d *dice) word(used int) uint64 {
	switch d.below(8) {
	case 0, 1, 2:
		return uint64(d.below(10))
	case 3:
		return uint64(d.below(used+3)) + uint64(d.below(3))<<32 - 1
	case 4:
		return 1<<63 + uint64(d.below(used))
	}
	return uint64(d.below(used + 2))
}

// link makes the heap's values lead somewhere more often than by chance.
func (d *dice) link(h *heap.Heap, places []int64) {
	for _, place := range places {
		o := at(h, place)
		other := places[d.below(len(places))]
		kind, _ := h.Kind(other)
		switch {
		case len(o.words) < 2:
		case (o.kind == api.List || o.kind == api.Map) && kind == api.Items:
			h.Write(place, 1, uint64(other)+1)
		case o.kind == api.Func || o.kind == api.Items:
			i := d.below(len(o.words) - 1)
			h.Write(place, i, uint64(kind))
			h.Write(place, i+1, uint64(other))
		case o.kind == api.Cell:
			h.Write(place, 0, uint64(kind))
			h.Write(place, 1, uint64(other))
		}
	}
}

// anyHeap is a heap of any objects with any words, sometimes with gaps.
func (d *dice) anyHeap() *heap.Heap {
	h, _ := heap.New(1 + d.below(80))
	for range d.below(16) {
		h.Alloc(api.Text+api.Kind(d.below(6)), d.below(7))
	}
	for range d.below(3) {
		if l := h.Places(); len(l) > 1 {
			i := 1 + d.below(len(l)-1)
			h.Move(l[i], l[i-1])
		}
	}
	places := h.Places()
	for _, place := range places {
		for i := range at(h, place).words {
			h.Write(place, i, d.word(h.Used()))
		}
	}
	for range 5 {
		d.link(h, places)
	}
	return h
}

// anyRoots are mostly such as may be.
func (d *dice) anyRoots(h *heap.Heap) []api.Val {
	var l []api.Val
	places := h.Places()
	for range d.below(7) {
		if len(places) == 0 || d.below(4) == 0 {
			l = append(l, api.Val{Kind: api.Kind(d.below(3)), N: int64(d.below(90))})
			continue
		}
		place := places[d.below(len(places))]
		k, _ := h.Kind(place)
		if k == api.Items && d.below(8) > 0 {
			continue
		}
		l = append(l, api.Val{Kind: k, N: place})
	}
	return l
}

// twin is a heap of the same words, made anew; false, if it has gaps.
func twin(t *testing.T, h *heap.Heap) (*heap.Heap, bool) {
	var objs []obj
	n := 0
	for _, place := range h.Places() {
		o := at(h, place)
		objs = append(objs, o)
		n += 1 + len(o.words)
	}
	if n != h.Used() {
		return nil, false
	}
	return lay(t, h.Words(), objs...), true
}

// P2.1, P2.2, P2.3: heaps of any words, against the chapter's words
func TestAnyHeaps(t *testing.T) {
	refused, held := 0, 0
	for seed := range 30000 {
		d := dice(seed)
		h := d.anyHeap()
		roots := d.anyRoots(h)
		p := plain(all(h))
		if !p.may(roots) {
			wantErr(t, h, roots, api.ErrArg)
			refused++
			continue
		}
		places, words := p.reach(roots)
		wantReach(t, h, roots, words, places...)
		if !sameObjs(p, all(h)) {
			t.Fatalf("seed %d: Reach changed the heap", seed)
		}
		held += len(places)
		again, whole := twin(t, h)
		after, want := p.collect(roots)
		wantCollect(t, h, roots, want...)
		if !sameObjs(after, all(h)) || h.Used() != words {
			t.Fatalf("seed %d: Used = %d, %v, want %d, %v", seed, h.Used(), all(h), words, after)
		}
		if whole {
			otherOrder(t, &d, again, h, roots)
		}
		onceMore(t, h, want)
		if t.Failed() {
			t.Fatalf("seed %d", seed)
		}
	}
	if refused < 500 || held < 30000 {
		t.Errorf("the heaps try too little: %d, %d", refused, held)
	}
}

// onceMore: P2.3, a second collection changes nothing, and the heap has just what the roots lead to
func onceMore(t *testing.T, h *heap.Heap, roots []api.Val) {
	t.Helper()
	before, used := all(h), h.Used()
	wantReach(t, h, roots, used, h.Places()...)
	wantCollect(t, h, roots, roots...)
	if !sameObjs(before, all(h)) || h.Used() != used {
		t.Errorf("a second collection changed the heap: %v, %v", before, all(h))
	}
}

// otherOrder: P2.3, the same roots in another order, one of them twice, leave the same heap
func otherOrder(t *testing.T, d *dice, h, same *heap.Heap, roots []api.Val) {
	t.Helper()
	other := slices.Clone(roots)
	for i := range other {
		j := d.below(i + 1)
		other[i], other[j] = other[j], other[i]
	}
	if len(other) > 0 {
		other = append(other, other[0])
	}
	l, e := gc.Collect(h, other)
	if e != api.OK || len(l) != len(other) {
		t.Errorf("Collect(%v) = %v, %d", other, l, e)
	}
	if !sameObjs(all(same), all(h)) || h.Used() != same.Used() {
		t.Errorf("roots in another order: %v, want %v", all(h), all(same))
	}
}

// P2.3: rows of roots, in every order and with some of them twice
func TestOrders(t *testing.T) {
	roots, moved := vals(cell(11), text(14), num(7)), vals(cell(8), text(11), num(7))
	want := example(t)
	wantCollect(t, want, roots, moved...)
	for n := range 81 {
		order := []int{n % 3, n / 3 % 3, n / 9 % 3, n / 27}
		if !slices.Contains(order, 0) || !slices.Contains(order, 1) {
			continue
		}
		var l, m []api.Val
		for _, i := range order {
			l, m = append(l, roots[i]), append(m, moved[i])
		}
		h := example(t)
		wantCollect(t, h, l, m...)
		if !sameObjs(all(want), all(h)) || h.Used() != want.Used() {
			t.Errorf("%v: %v", l, all(h))
		}
	}
}

// R1, P2.2: a heap of the greatest size, its objects within one another as deep as can be
func TestDeep(t *testing.T) {
	h, _ := heap.New(api.MaxWords)
	var last int64
	h.Alloc(api.Text, 0)
	n := 0
	for {
		place, e := h.Alloc(api.Cell, 2)
		if e != api.OK {
			break
		}
		if n > 0 {
			h.Write(place, 0, w(api.Cell))
			h.Write(place, 1, uint64(last))
		}
		last = place
		n++
	}
	if _, words, e := gc.Reach(h, vals(cell(last))); words != 3*n || e != api.OK {
		t.Fatalf("Reach: %d words, %d, want %d", words, e, 3*n)
	}
	wantCollect(t, h, vals(cell(last)), cell(last-1))
	if h.Used() != 3*n || len(h.Places()) != n {
		t.Errorf("Used = %d, want %d", h.Used(), 3*n)
	}
	for place := int64(3); place < last; place += 3 {
		if x, _ := h.Read(place, 1); int64(x) != place-3 {
			t.Fatalf("the Cell at %d leads to %d", place, x)
		}
	}
}

// P2.2: Items of the greatest size, filled with values
func TestWide(t *testing.T) {
	h, _ := heap.New(api.MaxWords)
	h.Alloc(api.Func, 3)
	h.Alloc(api.Text, 0)
	size := api.MaxWords - 4 - 1 - 3 - 1
	items, _ := h.Alloc(api.Items, size)
	l, e := h.Alloc(api.List, 2)
	if items != 5 || e != api.OK || h.Used() != api.MaxWords {
		t.Fatalf("%d %d %d", items, e, h.Used())
	}
	h.Write(l, 1, uint64(items)+1)
	for i := 0; i < size; i += 2 {
		h.Write(items, i, w(api.Text))
		h.Write(items, i+1, 4)
	}
	wantReach(t, h, vals(list(l)), api.MaxWords-4, 4, 5, l)
	wantCollect(t, h, vals(list(l)), list(l-4))
	for i := 0; i < size; i++ {
		want := uint64(0)
		if i%2 == 0 {
			want = w(api.Text)
		}
		if x, e := h.Read(1, i); x != want || e != api.OK {
			t.Fatalf("word %d is %d, %d", i, x, e)
		}
	}
	if x, _ := h.Read(l-4, 1); x != 2 {
		t.Errorf("the List's Items: %d", x)
	}
}
