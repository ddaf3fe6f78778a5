package object_test

import (
	"maps"
	"slices"
	"testing"

	"gearbox/api"
	"gearbox/gc"
	"gearbox/heap"
	"gearbox/object"
)

// world is a heap told plainly: its objects by their places. What the chapter says is worked out on it once more, word for word.
type world struct {
	words, used int
	objs        map[int64]obj
}

func look(h *heap.Heap) *world { return &world{h.Words(), h.Used(), all(h)} }

func (p *world) same(q *world) bool {
	return p.words == q.words && p.used == q.used && sameObjs(p.objs, q.objs)
}

func (p *world) leads(v api.Val) bool {
	o, ok := p.objs[v.N]
	return ok && v.Kind != api.Items && o.kind == v.Kind
}

func (p *world) mayBeHeld(v api.Val) bool {
	return v == none || v.Kind == api.Bool && (v.N == 0 || v.N == 1) || v.Kind == api.Int || v.Kind != api.Cell && p.leads(v)
}

func (p *world) isCell(v api.Val) bool { return v.Kind == api.Cell && p.leads(v) }

// itemsOf: the words of the Items of a List or a Map; false, if its word 1 tells none.
func (p *world) itemsOf(o obj) ([]uint64, bool) {
	i, ok := p.objs[int64(o.words[1])-1]
	return i.words, ok && i.kind == api.Items && o.words[1] < 1<<40
}

// mayBe: does a value lead to an object that is as the table says?
func (p *world) mayBe(v api.Val) bool {
	if !p.leads(v) {
		return false
	}
	words := p.objs[v.N].words
	switch v.Kind {
	case api.Text:
		return len(words) > 0 && words[0] <= api.MaxText && len(words) == 1+int(words[0]+7)/8
	case api.Func:
		return len(words)%2 == 1 && words[0] <= 1<<62
	case api.Cell:
		return len(words) == 2
	}
	most := uint64(api.MaxItems)
	if v.Kind == api.Map {
		most *= 2
	}
	if len(words) != 2 || words[0] > most || v.Kind == api.Map && words[0]%2 == 1 {
		return false
	}
	if words[1] == 0 {
		return words[0] == 0
	}
	i, ok := p.itemsOf(p.objs[v.N])
	return ok && len(i)%2 == 0 && len(i) >= 2*int(words[0])
}

// pairs: so many values that are held in words.
func pairs(words []uint64, n int) []api.Val {
	var l []api.Val
	for i := range n {
		v := none
		if words[2*i] <= 255 {
			v = api.Val{Kind: api.Kind(words[2*i]), N: int64(words[2*i+1])}
		}
		l = append(l, v)
	}
	return l
}

// values and room of an object that may be.
func (p *world) values(v api.Val) ([]api.Val, int) {
	o := p.objs[v.N]
	switch {
	case v.Kind == api.Func:
		return pairs(o.words[1:], len(o.words)/2), 0
	case v.Kind == api.Cell:
		return pairs(o.words, 1), 0
	case v.Kind == api.Text || o.words[1] == 0:
		return nil, 0
	}
	i, _ := p.itemsOf(o)
	return pairs(i, int(o.words[0])), len(i) / 2
}

func (p *world) said(v api.Val) string {
	o := p.objs[v.N]
	s := ""
	for i := range o.words[0] {
		s += string([]byte{byte(o.words[1+i/8] >> (i % 8 * 8))})
	}
	return s
}

func (p *world) areSame(a, b api.Val) bool {
	if a.Kind != b.Kind {
		return false
	}
	return a.Kind == api.Nil || a.N == b.N || a.Kind == api.Text && p.mayBe(a) && p.mayBe(b) && p.said(a) == p.said(b)
}

// add makes an object.
func (p *world) add(k api.Kind, words ...uint64) api.Val {
	at := int64(p.used)
	p.objs[at] = obj{k, words}
	p.used += 1 + len(words)
	return api.Val{Kind: k, N: at}
}

func (p *world) full(words int) bool { return p.words-p.used < words }

func (p *world) newText(s string) answer {
	words := make([]uint64, 1+(len(s)+7)/8)
	words[0] = uint64(len(s))
	for i := range len(s) {
		words[1+i/8] += uint64(s[i]) << (i % 8 * 8)
	}
	if p.full(1 + len(words)) {
		return answer{e: api.ErrFull}
	}
	return answer{v: p.add(api.Text, words...)}
}

// laid: values as words hold them.
func laid(l []api.Val, room int) []uint64 {
	words := make([]uint64, 2*room)
	for i, v := range l {
		words[2*i], words[2*i+1] = uint64(v.Kind), uint64(v.N)
	}
	return words
}

func (p *world) newRow(k api.Kind, l []api.Val, room int) answer {
	if room == 0 {
		if p.full(3) {
			return answer{e: api.ErrFull}
		}
		return answer{v: p.add(k, 0, 0)}
	}
	if p.full(4 + 2*room) {
		return answer{e: api.ErrFull}
	}
	v := p.add(k, uint64(len(l)), uint64(p.used)+4)
	p.add(api.Items, laid(l, room)...)
	return answer{v: v}
}

// find: where a Map's key stands; below 0: nowhere.
func (p *world) find(l []api.Val, k api.Val) int {
	for i := 0; i < len(l); i += 2 {
		if p.areSame(l[i], k) {
			return i
		}
	}
	return -1
}

// answer is all that a call answers.
type answer struct {
	v   api.Val
	s   string
	l   []api.Val
	n   int
	st  api.Store
	yes bool
	e   api.Errno
}

func (a answer) same(b answer) bool {
	return a.v == b.v && a.s == b.s && a.n == b.n && a.yes == b.yes && a.e == b.e && slices.Equal(a.l, b.l) && sameStores(a.st, b.st)
}

// asked is a call, and what it is handed.
type asked struct {
	call    string
	v, k, x api.Val
	l       []api.Val
	s       string
	n       int
}

// real does a call.
func real(h *heap.Heap, c asked) (a answer) {
	switch c.call {
	case "NewText":
		a.v, a.e = object.NewText(h, c.s)
	case "Text":
		a.s, a.e = object.Text(h, c.v)
	case "NewList":
		a.v, a.e = object.NewList(h, c.l)
	case "NewMap":
		a.v, a.e = object.NewMap(h, c.l)
	case "Items":
		a.l, a.e = object.Items(h, c.v)
	case "Len":
		a.n, a.e = object.Len(h, c.v)
	case "Get":
		a.v, a.e = object.Get(h, c.v, c.k)
	case "Put":
		a.e = object.Put(h, c.v, c.k, c.x)
	case "NewCell":
		a.v, a.e = object.NewCell(h, c.x)
	case "NewFn":
		a.v, a.e = object.NewFn(h, c.n, c.l)
	case "Fn":
		a.n, a.l, a.e = object.Fn(h, c.v)
	case "Cell":
		a.v, a.e = object.Cell(h, c.v)
	case "SetCell":
		a.e = object.SetCell(h, c.v, c.x)
	case "Same":
		a.yes = object.Same(h, c.k, c.x)
	case "Plain":
		a.st, a.v, a.e = object.Plain(h, c.v)
	}
	return a
}

// takes: the kinds of value that a call takes.
func takes(call string) []api.Kind {
	for _, c := range takers {
		if c.name == call {
			return c.kinds
		}
	}
	return nil
}

// do does a call as the chapter says it.
func (p *world) do(c asked) answer {
	if kinds := takes(c.call); kinds != nil {
		if !slices.Contains(kinds, c.v.Kind) {
			return answer{e: api.ErrKind}
		}
		if !p.mayBe(c.v) {
			return answer{e: api.ErrArg}
		}
	}
	var l []api.Val
	if p.mayBe(c.v) {
		l, _ = p.values(c.v)
	}
	switch c.call {
	case "NewText":
		return p.newText(c.s)
	case "Text":
		return answer{s: p.said(c.v)}
	case "NewList", "NewMap":
		return p.make(c)
	case "Items":
		return answer{l: l}
	case "Len":
		switch c.v.Kind {
		case api.Text:
			return answer{n: len(p.said(c.v))}
		case api.Map:
			return answer{n: len(l) / 2}
		}
		return answer{n: len(l)}
	case "Get":
		return p.get(c, l)
	case "Put":
		return p.put(c, l)
	case "NewCell", "SetCell":
		return p.setCell(c)
	case "NewFn":
		return p.newFn(c)
	case "Fn":
		return answer{n: int(p.objs[c.v.N].words[0]), l: l}
	case "Cell":
		return answer{v: l[0]}
	case "Same":
		return answer{yes: p.areSame(c.k, c.x)}
	}
	return p.plain(c.v)
}

func (p *world) make(c asked) answer {
	for _, v := range c.l {
		if !p.mayBeHeld(v) {
			return answer{e: api.ErrArg}
		}
	}
	if c.call == "NewList" {
		return p.newRow(api.List, c.l, len(c.l))
	}
	if len(c.l)%2 != 0 {
		return answer{e: api.ErrArg}
	}
	var l []api.Val
	for i := 0; i < len(c.l); i += 2 {
		if at := p.find(l, c.l[i]); at >= 0 {
			l[at+1] = c.l[i+1]
		} else {
			l = append(l, c.l[i], c.l[i+1])
		}
	}
	return p.newRow(api.Map, l, len(c.l))
}

func (p *world) get(c asked, l []api.Val) answer {
	if c.v.Kind == api.Map {
		if at := p.find(l, c.k); at >= 0 {
			return answer{v: l[at+1]}
		}
		return answer{}
	}
	if c.k.Kind != api.Int {
		return answer{e: api.ErrKind}
	}
	n := len(l)
	if c.v.Kind == api.Text {
		n = len(p.said(c.v))
	}
	if c.k.N < 0 || c.k.N >= int64(n) {
		return answer{e: api.ErrArg}
	}
	if c.v.Kind == api.Text {
		return p.newText(p.said(c.v)[c.k.N:][:1])
	}
	return answer{v: l[c.k.N]}
}

func (p *world) put(c asked, l []api.Val) answer {
	at, more, least := 0, vals(c.x), 4
	if c.v.Kind == api.Map {
		if !p.mayBeHeld(c.k) || !p.mayBeHeld(c.x) {
			return answer{e: api.ErrArg}
		}
		at, more, least = p.find(l, c.k)+1, vals(c.k, c.x), 8
		if at == 0 {
			at = len(l)
		}
	} else {
		if c.k.Kind != api.Int {
			return answer{e: api.ErrKind}
		}
		if c.k.N < 0 || c.k.N > int64(len(l)) || !p.mayBeHeld(c.x) {
			return answer{e: api.ErrArg}
		}
		at = int(c.k.N)
	}
	o := p.objs[c.v.N]
	if at < len(l) {
		i, _ := p.itemsOf(o)
		copy(i[2*at:], laid(vals(c.x), 1))
		return answer{}
	}
	_, room := p.values(c.v)
	l = append(l, more...)
	if len(l) > room {
		room = max(2*room, least)
		if p.full(1 + 2*room) {
			return answer{e: api.ErrFull}
		}
		o.words[1] = uint64(p.add(api.Items, laid(l, room)...).N) + 1
	}
	i, _ := p.itemsOf(o)
	copy(i[2*at:], laid(more, len(more)))
	o.words[0] = uint64(len(l))
	return answer{}
}

func (p *world) setCell(c asked) answer {
	if !p.mayBeHeld(c.x) {
		return answer{e: api.ErrArg}
	}
	words := laid(vals(c.x), 1)
	if c.call == "SetCell" {
		copy(p.objs[c.v.N].words, words)
		return answer{}
	}
	if p.full(3) {
		return answer{e: api.ErrFull}
	}
	return answer{v: p.add(api.Cell, words...)}
}

func (p *world) newFn(c asked) answer {
	for _, v := range c.l {
		if !p.isCell(v) {
			return answer{e: api.ErrArg}
		}
	}
	if c.n < 0 || c.n > 1<<62 {
		return answer{e: api.ErrArg}
	}
	if p.full(2 + 2*len(c.l)) {
		return answer{e: api.ErrFull}
	}
	return answer{v: p.add(api.Func, append([]uint64{uint64(c.n)}, laid(c.l, len(c.l))...)...)}
}

// visit puts down the objects that a value leads to through values; false: one may not be, or has a value that it may not have.
func (p *world) visit(v api.Val, seen map[int64]bool) bool {
	if v.Kind < api.Text || seen[v.N] {
		return true
	}
	if !p.mayBe(v) {
		return false
	}
	seen[v.N] = true
	l, _ := p.values(v)
	for _, x := range l {
		if v.Kind == api.Func && !p.isCell(x) || v.Kind != api.Func && !p.mayBeHeld(x) || !p.visit(x, seen) {
			return false
		}
	}
	return true
}

func (p *world) plain(v api.Val) answer {
	seen := map[int64]bool{}
	if !p.mayBeHeld(v) && !p.isCell(v) || !p.visit(v, seen) {
		return answer{e: api.ErrArg}
	}
	places := slices.Sorted(maps.Keys(seen))
	number := func(v api.Val) api.Val {
		if v.Kind >= api.Text {
			v.N = int64(slices.Index(places, v.N)) + 1
		}
		return v
	}
	a := answer{v: number(v)}
	for _, at := range places {
		o := p.objs[at]
		x := api.Val{Kind: o.kind, N: at}
		l, room := p.values(x)
		for i, y := range l {
			l[i] = number(y)
		}
		plain := api.Obj{Kind: o.kind, L: l, Room: room}
		switch o.kind {
		case api.Text:
			plain.S = p.said(x)
		case api.Func:
			plain.Fn = int(o.words[0])
		}
		a.st = append(a.st, plain)
	}
	return a
}

// dice is a row of numbers that hangs on its start alone.
type dice uint64

func (d *dice) below(n int) int {
	*d = *d*6364136223846793005 + 1442695040888963407
	return int(uint64(*d) >> 33 % uint64(n))
}

// val is mostly one that leads to an object, or a small number.
func (d *dice) val(h *heap.Heap) api.Val {
	places := h.Places()
	switch n := d.below(20); {
	case n == 0:
		return api.Val{Kind: api.Kind(d.below(11)), N: int64(d.below(h.Used()+3)) - 1}
	case n == 1:
		return truth(int64(d.below(2)))
	case n == 2:
		return none
	case n < 8 || len(places) == 0:
		return num(int64(d.below(6)) - 1)
	}
	place := places[d.below(len(places))]
	k, _ := h.Kind(place)
	return api.Val{Kind: k, N: place}
}

// object is mostly a value that leads to an object.
func (d *dice) object(h *heap.Heap) api.Val {
	for range 6 {
		if v := d.val(h); v.Kind >= api.Text && v.Kind < api.Items {
			return v
		}
	}
	return d.val(h)
}

// text is often one of a few.
func (d *dice) text() string {
	s := []string{"", "a", "b", "eight ch", "eight cH", "nine char"}[d.below(6)]
	if d.below(8) == 0 {
		s += "\x00"
	}
	return s
}

// ask is any call.
func (d *dice) ask(h *heap.Heap) asked {
	calls := []string{"NewText", "Text", "NewList", "NewMap", "Items", "Len", "Get", "Get", "Put", "Put", "Put", "Put", "NewCell", "NewFn", "Fn", "Cell", "SetCell", "Same", "Plain"}
	c := asked{call: calls[d.below(len(calls))], v: d.object(h), k: d.val(h), x: d.val(h), s: d.text(), n: d.below(9) - 1}
	if kinds := takes(c.call); kinds != nil {
		for range 12 {
			if slices.Contains(kinds, c.v.Kind) {
				break
			}
			c.v = d.object(h)
		}
	}
	for range d.below(4) * (1 + d.below(2)) {
		x := d.val(h)
		for i := 0; c.call == "NewFn" && x.Kind != api.Cell && i < 20; i++ {
			x = d.val(h)
		}
		c.l = append(c.l, x)
	}
	return c
}

// damage writes any word, mostly a small one, to any object.
func (d *dice) damage(h *heap.Heap) {
	places := h.Places()
	if len(places) == 0 {
		return
	}
	place := places[d.below(len(places))]
	size, _ := h.Size(place)
	if size == 0 {
		return
	}
	x := uint64(d.below(h.Used() + 2))
	switch d.below(6) {
	case 0:
		x += uint64(d.below(3)-1) << 60
	case 1:
		x += 256
	case 2, 3:
		x %= 9
	}
	h.Write(place, d.below(size), x)
}

// anyHeap is a heap of any objects with any words, sometimes with gaps; often it is empty.
func (d *dice) anyHeap() *heap.Heap {
	h, _ := heap.New(1 + d.below(150))
	if d.below(2) == 0 {
		return h
	}
	for range d.below(16) {
		h.Alloc(api.Text+api.Kind(d.below(6)), []int{2, 2, 2, 4, 1, 3, 0, 5, 8}[d.below(9)])
	}
	if l := h.Places(); len(l) > 2 && d.below(4) == 0 {
		h.Move(l[2], l[1])
	}
	for range d.below(80) {
		d.damage(h)
	}
	return h
}

// collected: P3.9, a collection changes no Plain of a root (where there was one: a word that led nowhere may lead to what comes to lie there)
func collected(t *testing.T, d *dice, h *heap.Heap) {
	var roots []api.Val
	var before []answer
	for range d.below(12) {
		if v := d.object(h); look(h).leads(v) || v.Kind < api.Text {
			roots = append(roots, v)
			before = append(before, real(h, asked{call: "Plain", v: v}))
		}
	}
	after, e := gc.Collect(h, roots)
	if e != api.OK {
		t.Errorf("Collect(%v): %d", roots, e)
		return
	}
	for i, v := range after {
		if a := real(h, asked{call: "Plain", v: v}); before[i].e == api.OK && !a.same(before[i]) {
			t.Errorf("Plain(%v) = %v behind a collection, ahead of it %v", v, a, before[i])
		}
	}
}

// P3.1 to P3.9, R1, R2: any calls on any heaps, against the chapter's words
func TestAnyCalls(t *testing.T) {
	got := map[string]map[api.Errno]int{}
	for seed := range 8000 {
		d := dice(seed)
		h := d.anyHeap()
		calm := d.below(2) == 0
		for step := range 40 {
			c := d.ask(h)
			p := look(h)
			before := look(h)
			want := p.do(c)
			a := real(h, c)
			if !a.same(want) || !p.same(look(h)) {
				t.Fatalf("seed %d, step %d: %v = %v, want %v; the heap %v, want %v", seed, step, c, a, want, look(h), p)
			}
			if a.e != api.OK && !before.same(look(h)) {
				t.Fatalf("seed %d, step %d: %v changed the heap beside an error", seed, step, c)
			}
			if got[c.call] == nil {
				got[c.call] = map[api.Errno]int{}
			}
			got[c.call][a.e]++
			switch n := d.below(60); {
			case n == 0:
				collected(t, &d, h)
			case n < 6 && !calm:
				d.damage(h)
			}
			if t.Failed() {
				t.Fatalf("seed %d, step %d", seed, step)
			}
		}
	}
	for call, least := range map[string][]api.Errno{
		"NewText": {api.OK, api.ErrFull}, "Text": {api.OK, api.ErrKind, api.ErrArg}, "NewList": {api.OK, api.ErrArg, api.ErrFull}, "NewMap": {api.OK, api.ErrArg, api.ErrFull},
		"Items": {api.OK, api.ErrKind, api.ErrArg}, "Len": {api.OK, api.ErrKind, api.ErrArg}, "Get": {api.OK, api.ErrKind, api.ErrArg, api.ErrFull}, "Put": {api.OK, api.ErrKind, api.ErrArg, api.ErrFull},
		"NewCell": {api.OK, api.ErrArg, api.ErrFull}, "NewFn": {api.OK, api.ErrArg, api.ErrFull}, "Fn": {api.OK, api.ErrKind, api.ErrArg}, "Cell": {api.OK, api.ErrKind, api.ErrArg}, "SetCell": {api.OK, api.ErrKind, api.ErrArg}, "Same": {api.OK}, "Plain": {api.OK, api.ErrArg},
	} {
		for _, e := range least {
			if got[call][e] < 100 {
				t.Errorf("%s answered %d only %d times", call, e, got[call][e])
			}
		}
	}
}

// P3.9: what is made and put comes back, with collections between the calls; a map of the language's own tells what is asked for
func TestMapBetweenCollections(t *testing.T) {
	d := dice(7)
	h, _ := heap.New(600)
	root := must(t)(object.NewMap(h, nil))
	var order []string
	want := map[string]int64{}
	for step := range 3000 {
		if 600-h.Used() < 150 {
			l, e := gc.Collect(h, vals(root))
			if e != api.OK {
				t.Fatalf("Collect: %d", e)
			}
			root = l[0]
		}
		s := string(rune('a'+d.below(20))) + "key"
		if _, ok := want[s]; !ok {
			order = append(order, s)
		}
		want[s] = int64(step)
		wantPut(t, h, root, must(t)(object.NewText(h, s)), num(int64(step)), api.OK)
		l, e := object.Items(h, root)
		if e != api.OK || len(l) != 2*len(order) {
			t.Fatalf("step %d: Items = %v, %d", step, l, e)
		}
		for i, s := range order {
			wantText(t, h, l[2*i], s)
			if l[2*i+1] != num(want[s]) {
				t.Fatalf("step %d: the value of %s is %v, want %d", step, s, l[2*i+1], want[s])
			}
		}
	}
}

// P0.3, P3.9: behind a collection a heap has just what can be reached, and no call has asked for more words than it takes
func TestRoomBehindCollection(t *testing.T) {
	h, _ := heap.New(3 + 9 + 17)
	v := must(t)(object.NewList(h, nil))
	for i := range int64(8) {
		wantPut(t, h, v, num(i), num(i), api.OK)
	}
	wantUsed(t, h, 29)
	stays(t, h, func() { wantPut(t, h, v, num(8), num(8), api.ErrFull) })
	roots, e := gc.Collect(h, vals(v))
	wantErr(t, "Collect", e, api.OK)
	wantUsed(t, h, 20)
	s := must(t)(object.NewText(h, "0123456789abcdef012345678901234567890123456789abcdefghij"))
	wantUsed(t, h, 29)
	stays(t, h, func() {
		x, e := object.NewText(h, "")
		wantVal(t, "NewText", x, e, none, api.ErrFull)
	})
	wantText(t, h, s, "0123456789abcdef012345678901234567890123456789abcdefghij")
	wantItems(t, h, roots[0], num(0), num(1), num(2), num(3), num(4), num(5), num(6), num(7))
}
