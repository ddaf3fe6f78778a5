package prim_test

import (
	"math"
	"strings"
	"testing"

	"gearbox/api"
	"gearbox/prim"
	"gearbox/samples"
)

// cook makes stores, and calls on them.
type cook struct{ *samples.Dice }

// store: of some objects, most of them as they may be; wild: how seldom there is one that may not.
func (c cook) store(wild int) api.Store {
	s := make(api.Store, c.Below(12))
	for i := range s {
		s[i].Kind = api.Text + api.Kind(c.Below(5))
		c.say(&s[i])
	}
	for i := range s {
		c.fill(s, &s[i])
		if c.Below(wild) == 0 {
			c.spoil(s, &s[i])
		}
	}
	return s
}

// say: what a Text says. All do so first, since keys are held against each other.
func (c cook) say(o *api.Obj) {
	if o.Kind == api.Text {
		o.S = strings.Repeat(c.Of("", "a", "b", "\xff", "ab, "), 1+c.Below(3))
		if c.Below(4) == 0 {
			o.S = strings.Repeat("x", api.MaxText/(1+c.Below(2))+1-c.Below(3))
		}
	}
}

// fill: the values of an object that may be.
func (c cook) fill(s api.Store, o *api.Obj) {
	switch o.Kind {
	case api.Func:
		o.Fn = c.Below(256)
		for i := range s {
			if s[i].Kind == api.Cell && c.Below(2) == 0 {
				o.L = append(o.L, cell(int64(i)+1))
			}
		}
	case api.Cell:
		o.L = []api.Val{c.held(s)}
	case api.List:
		for range c.Below(6) {
			o.L = append(o.L, c.held(s))
		}
		o.Room = len(o.L) + max(0, c.Below(5)-2)
	case api.Map:
		for range c.Below(5) {
			o.L = (world{s}).pair(o.L, c.held(s), c.held(s))
		}
		o.Room = len(o.L) + max(0, c.Below(5)-2)
	}
}

// held: a value that is no cell.
func (c cook) held(s api.Store) api.Val {
	for range 5 {
		if len(s) == 0 || c.Below(3) == 0 {
			break
		}
		n := c.Below(len(s))
		if s[n].Kind >= api.Text && s[n].Kind <= api.Func {
			return val(s[n].Kind, int64(n)+1)
		}
	}
	if c.Below(6) == 0 {
		return []api.Val{num(math.MinInt64), num(math.MaxInt64), num(1 << 32), num(-1 << 31), num(3037000500)}[c.Below(5)]
	}
	return []api.Val{none, no, yes, num(0), num(1), num(2), num(3), num(5), num(-1), num(12345678901)}[c.Below(10)]
}

// any: a value that may not be, as often as not.
func (c cook) any(s api.Store) api.Val {
	n := c.Below(len(s)+4) - 1
	if n >= 1 && n <= len(s) && c.Below(3) > 0 {
		return val(s[n-1].Kind, int64(n))
	}
	return val(api.Kind(c.Below(10)), int64(n))
}

// value: one that may be, mostly.
func (c cook) value(s api.Store, wild int) api.Val {
	if c.Below(wild) == 0 {
		return c.any(s)
	}
	return c.held(s)
}

// like: a value of a kind, if there is one.
func (c cook) like(s api.Store, k api.Kind) api.Val {
	for range 8 {
		if v := c.held(s); v.Kind == k {
			return v
		}
	}
	return c.held(s)
}

// spoil: an object that may not be any more, mostly.
func (c cook) spoil(s api.Store, o *api.Obj) {
	switch c.Below(9) {
	case 0:
		o.Kind = api.Kind(c.Below(10))
	case 1:
		o.S += "x"
	case 2:
		o.Room = c.Below(5) - 2
	case 3:
		o.Room = 4*api.MaxItems + c.Below(2)
	case 4:
		o.Fn = c.Below(5)*api.MaxFns/2 - 1
	case 5:
		o.L = append(o.L, o.L...)
	case 6:
		o.L = o.L[:c.Below(len(o.L)+1)]
	default:
		o.L = append(o.L, c.any(s))
	}
}

// call: any one, on values that may be, mostly.
func (c cook) call(s api.Store, wild int) call {
	v := func() api.Val { return c.value(s, wild) }
	like := func(k api.Kind) api.Val { return c.like(s, k) }
	pair := api.Int + api.Kind(c.Below(2))
	switch c.Below(14) {
	case 0, 1, 2:
		return bin(api.Bin(c.Below(11)), like(pair), like(pair))
	case 3:
		return bin(api.Bin(c.Below(11)), v(), v())
	case 4:
		return one(c.Of("Not", "Neg", "Len", "Show", "Cell"), v())
	case 5:
		return newText(strings.Repeat(c.Of("", "a", "\x00\xff"), c.Below(20)))
	case 6, 7:
		return row(c.Of("List", "Map"), c.row(s, wild)...)
	case 8:
		return newFn(c.Below(256), c.cells(s, wild)...)
	case 9:
		return get(like(api.Text+api.Kind(c.Below(3))), like(api.Int))
	case 10:
		return get(like(api.Map), v())
	case 11, 12:
		return put(like(api.List), num(int64(c.Below(8)-1)), v())
	}
	return put(like(api.Map), v(), v())
}

func (c cook) row(s api.Store, wild int) []api.Val {
	var l []api.Val
	for range c.Below(9) {
		l = append(l, c.value(s, 3*wild))
	}
	return l
}

func (c cook) cells(s api.Store, wild int) []api.Val {
	var l []api.Val
	for i, o := range s {
		if o.Kind == api.Cell && c.Below(2) == 0 {
			l = append(l, cell(int64(i)+1))
		}
	}
	if c.Below(wild) == 0 {
		l = append(l, c.any(s))
	}
	return l
}

// P11.1 to P11.5, over stores of any objects.
func TestFollows(t *testing.T) {
	counts := map[string]int{}
	for seed := range 12000 {
		d := samples.Dice(seed)
		c := cook{&d}
		wild := 2 + seed%40
		s := c.store(wild)
		for range 8 {
			k := c.call(s, wild)
			did := alike(t, s, k)
			counts[k.op+" "+did.Thrown]++
			if did.Words > 0 {
				counts[k.op+" asks"]++
			}
			if d.Below(3) > 0 {
				s = did.Store
			}
		}
		if t.Failed() {
			t.Fatalf("start %d", seed)
		}
	}
	for _, w := range strings.Fields("Bin: Bin:kind Bin:zero Bin:great Bin:asks Not: Neg: Len: Show: Show:great Not:kind Neg:kind Len:kind Show:kind Text: List: List:kind Map: Map:kind Cell: Cell:kind Fn: Fn:kind Get: Get:kind Get:bounds Get:asks Put: Put:kind Put:bounds Put:asks") {
		if k := strings.Replace(w, ":", " ", 1); counts[k] < 40 {
			t.Errorf("too few: %s %d", k, counts[k])
		}
	}
}

// P11.1 to P11.5: one operation behind the other, on a store that grows.
func TestLongRuns(t *testing.T) {
	for seed := range 60 {
		d := samples.Dice(seed)
		c := cook{&d}
		s := prim.Map(prim.List(nil, nil).Store, nil).Store
		for range 120 {
			k := c.call(s, 1000)
			if d.Below(3) == 0 {
				k = put(list(1), num(int64(len(s[0].L)-d.Below(2))), c.held(s))
			}
			s = alike(t, s, k).Store
		}
		if t.Failed() {
			t.Fatalf("start %d", seed)
		}
		if len(s[0].L) < 10 || s[0].Room < 16 {
			t.Errorf("start %d: %s", seed, brief(s[0]))
		}
	}
}
