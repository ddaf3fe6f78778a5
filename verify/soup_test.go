package verify_test

import (
	"math"
	"slices"
	"testing"

	"gearbox/api"
	"gearbox/gen"
	"gearbox/samples"
)

// copyOf: a program in other memory.
func copyOf(p api.Program) api.Program {
	q := slices.Clone(p)
	for i, f := range q {
		q[i].Caps, q[i].Consts, q[i].Code, q[i].Lines, q[i].Handlers = slices.Clone(f.Caps), slices.Clone(f.Consts), slices.Clone(f.Code), slices.Clone(f.Lines), slices.Clone(f.Handlers)
	}
	return q
}

// cook makes code that may be wrong.
type cook struct{ *samples.Dice }

// near: a number that is another one, or not far from it; or far from all.
func (c cook) near(n int) int {
	switch c.Below(8) {
	case 0:
		return []int{math.MaxInt, math.MinInt, 1 << 32, api.MaxStack, api.MaxStack + 1, api.MaxCode, 255, 64}[c.Below(8)]
	case 1:
		return c.Below(5)
	}
	return n + c.Below(5) - 2
}

// spoil: something of a program is another one.
func (c cook) spoil(p api.Program) {
	f := &p[c.Below(len(p))]
	i := c.Below(len(f.Code))
	switch c.Below(12) {
	case 0:
		f.Params = c.near(f.Params)
	case 1:
		f.Locals = c.near(f.Locals)
	case 2, 3:
		f.Code[i].A = c.near(f.Code[i].A)
	case 4, 5:
		f.Code[i] = f.Code[c.Below(len(f.Code))]
	case 6:
		f.Code[i] = api.Ins{Op: api.Op(c.Below(34))}
	case 7:
		f.Lines[i] = c.near(1)
	case 8:
		f.Code, f.Lines = slices.Delete(f.Code, i, i+1), slices.Delete(f.Lines, i, i+1)
	case 9:
		c.spoilCaps(f)
	default:
		c.spoilHandlers(f)
	}
}

func (c cook) spoilCaps(f *api.Fn) {
	if len(f.Caps) == 0 || c.Below(6) == 0 {
		f.Caps = append(f.Caps, api.Cap{Up: c.Below(2) == 0, N: c.Below(2)})
		return
	}
	cell := &f.Caps[c.Below(len(f.Caps))]
	if c.Below(2) == 0 {
		cell.Up = !cell.Up
	}
	cell.N = c.near(cell.N)
}

func (c cook) spoilHandlers(f *api.Fn) {
	if len(f.Handlers) == 0 || c.Below(3) == 0 {
		to := 1 + c.Below(len(f.Code))
		f.Handlers = append(f.Handlers, api.Handler{From: c.Below(to), To: to, At: to + c.Below(3), Deep: c.Below(5) / 3})
		return
	}
	h := &f.Handlers[c.Below(len(f.Handlers))]
	part := []*int{&h.From, &h.To, &h.At, &h.Deep}[c.Below(4)]
	*part = c.near(*part)
}

// P9.1, P9.2: code of texts, as it is and with something of it changed, against the second telling.
func TestSpoilt(t *testing.T) {
	wrong, right := 0, 0
	for seed := range 4000 {
		p, _, e := gen.Of(samples.Text(seed))
		if e != api.OK {
			continue
		}
		d := samples.Dice(seed)
		for range 8 {
			q := copyOf(p)
			for range 1 + d.Below(3) {
				cook{&d}.spoil(q)
				if slices.ContainsFunc(q, func(f api.Fn) bool { return len(f.Code) == 0 }) {
					break
				}
			}
			if alike(t, q) == api.OK {
				right++
			} else {
				wrong++
			}
		}
	}
	t.Logf("%d wrong, %d right", wrong, right)
	if wrong < 10000 || right < 3000 {
		t.Errorf("%d wrong, %d right", wrong, right)
	}
}

// number: one that an instruction may have where it stands, mostly.
func (c cook) number(p api.Program, f api.Fn, pc int) int {
	numbers, _, _, ok := modelRow(p, f, pc)
	if !ok || numbers.most < numbers.least || c.Below(60) == 0 {
		return c.near(0)
	}
	if numbers.most > 20 {
		return c.Below(3)
	}
	return numbers.least + c.Below(numbers.most-numbers.least+1)
}

// soup: a function of instructions that go on where they stand, mostly, with handlers anywhere.
func (c cook) soup(p api.Program, n int) {
	f := &p[n]
	size := 1 + c.Below(14)
	f.Code, f.Lines = make([]api.Ins, size), make([]int, size)
	deep := 0
	for pc := range f.Code {
		f.Code[pc].Op = api.Op(1 + c.Below(len(words)-1))
		_, takes, leaves, _ := modelRow(p, *f, pc)
		if takes > deep || deep+leaves-takes > 4 || f.Code[pc].Op == api.OpLoop && deep > 0 {
			f.Code[pc].Op = api.OpNil
		}
		if pc == size-1 {
			f.Code[pc].Op = []api.Op{api.OpReturn, api.OpThrow, api.OpLoop}[c.Below(3)]
		}
		f.Code[pc].A = c.number(p, *f, pc)
		_, takes, leaves, _ = modelRow(p, *f, pc)
		deep = max(0, deep+leaves-takes)
	}
	for range c.Below(4) {
		if size > 1 {
			to := 1 + c.Below(size-1)
			f.Handlers = append(f.Handlers, api.Handler{From: c.Below(to), To: to, At: to + c.Below(size-to), Deep: c.Below(7) / 4})
		}
	}
}

// P9.1, P9.2: instructions one behind the other, against the second telling.
func TestSoup(t *testing.T) {
	wrong, right := 0, 0
	for seed := range 150000 {
		d := samples.Dice(seed)
		c := cook{&d}
		p := make(api.Program, 1+d.Below(3))
		for n := range p {
			p[n].Locals = d.Below(3)
			for range d.Below(3) * min(n, 1) {
				p[n].Caps = append(p[n].Caps, api.Cap{Up: d.Below(3) == 0, N: d.Below(5) / 3})
			}
			p[n].Consts = slices.Repeat([]api.Const{{Kind: api.Int}}, d.Below(3))
		}
		for n := range p {
			c.soup(p, n)
		}
		if alike(t, p) == api.OK {
			right++
		} else {
			wrong++
		}
	}
	t.Logf("%d wrong, %d right", wrong, right)
	if wrong < 10000 || right < 5000 {
		t.Errorf("%d wrong, %d right", wrong, right)
	}
}
