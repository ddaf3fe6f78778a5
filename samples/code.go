package samples

import (
	"math"
	"slices"
	"strings"

	"gearbox/api"
)

// Code: a program as code that may be. It has what no text has: cells on stacks, handed over and given back, locals that should be cells and are none, handlers that keep values, handlers of one instruction.
func Code(seed int) api.Program {
	d := Dice(seed)
	p := make(api.Program, 1+d.Below(4))
	made := make([][]int, len(p))
	for n := range p {
		if n > 0 {
			maker := d.Below(n)
			made[maker] = append(made[maker], n)
			p[n].Params = d.Below(3)
		}
	}
	for n := range p {
		c := coder{dice: &d, p: p, f: &p[n], made: made[n], left: 20 + 20*(seed%4)}
		c.function()
	}
	return p
}

// coder writes a function.
type coder struct {
	dice  *Dice
	p     api.Program
	f     *api.Fn
	made  []int // the functions that it makes
	first int   // the local that holds the first of these
	deep  int   // how deep the stack is
	floor int   // how deep it is at least, for the handlers around
	left  int   // how many parts may come yet
}

func (c *coder) function() {
	c.first = c.f.Params + 1 + c.dice.Below(2)
	c.f.Locals = c.first + len(c.made) + c.dice.Below(3)
	for range 1 + c.dice.Below(4) {
		c.f.Consts = append(c.f.Consts, c.constant())
	}
	c.beginning()
	for range 1 + c.dice.Below(6) {
		if c.dice.Below(6) < 1 || c.f != &c.p[0] && c.dice.Below(2) == 0 {
			c.stmt(2 + c.dice.Below(3))
		} else {
			c.guarded(func() { c.stmt(2 + c.dice.Below(3)) }, c.eaten)
		}
	}
	if c.dice.Below(2) == 0 {
		c.expr(2)
	} else {
		c.put(api.OpNil, 0, 1)
	}
	c.put([]api.Op{api.OpReturn, api.OpReturn, api.OpThrow}[c.dice.Below(3)], 0, -1)
}

func (c *coder) constant() api.Const {
	switch c.dice.Below(4) {
	case 0:
		return api.Const{Kind: api.Text, S: c.dice.Of("", "a", "0", "kind", strings.Repeat("long ", 20))}
	case 1:
		return api.Const{Kind: api.Int, N: []int64{math.MinInt64, -1, math.MaxInt64, 0}[c.dice.Below(4)]}
	}
	return api.Const{Kind: api.Int, N: int64(c.dice.Below(4))}
}

// beginning: the functions that it makes, over cells that were made ahead, mostly.
func (c *coder) beginning() {
	cells := map[int]int{}
	for i, n := range c.made {
		fn := &c.p[n]
		for range c.dice.Below(3) {
			k := api.Cap{N: c.dice.Below(c.first)}
			if len(c.f.Caps) > 0 && c.dice.Below(3) == 0 {
				k = api.Cap{Up: true, N: c.dice.Below(len(c.f.Caps))}
			}
			if cells[k.N]++; !k.Up && cells[k.N] == 1 && c.dice.Below(12) > 0 {
				c.put(api.OpCell, k.N, 0)
			}
			fn.Caps = append(fn.Caps, k)
		}
		c.put(api.OpFn, n, 1)
		c.put(api.OpStore, c.first+i, -1)
		if i := slices.IndexFunc(fn.Caps, func(k api.Cap) bool { return !k.Up }); i >= 0 && c.dice.Below(2) == 0 {
			c.put(api.OpLoad, c.first, 1)
			c.put(api.OpCellStore, fn.Caps[i].N, -1)
		}
	}
}

// put: an instruction, behind which the stack is deeper by so many.
func (c *coder) put(op api.Op, a, deeper int) {
	c.f.Code = append(c.f.Code, api.Ins{Op: op, A: a})
	c.f.Lines = append(c.f.Lines, len(c.f.Code)/5)
	c.deep += deeper
}

// to: an instruction that names a place that is not known yet; it is the one at which what is answered is called.
func (c *coder) to(op api.Op, deeper int) func() {
	at := len(c.f.Code)
	c.put(op, 0, deeper)
	return func() { c.f.Code[at].A = len(c.f.Code) }
}

// reach: the stack is so deep.
func (c *coder) reach(deep int) {
	for c.deep > deep {
		c.put([]api.Op{api.OpPop, api.OpPrint}[c.dice.Below(2)], 0, -1)
	}
	for c.deep < deep {
		c.put(api.OpNil, 0, 1)
	}
}

// guarded: what body writes, with a handler; behind both the stack is as deep as behind body. The handler keeps at most as many values as there are ahead of body.
func (c *coder) guarded(body func(), caught func()) {
	keeps := c.floor + c.dice.Below(c.deep-c.floor+1)
	if c.dice.Below(2) == 0 {
		keeps = c.deep
	}
	floor := c.floor
	c.floor = keeps
	h := api.Handler{From: len(c.f.Code), Deep: keeps}
	body()
	deep := c.deep
	c.floor = floor
	h.To = len(c.f.Code)
	end := c.to(api.OpJump, 0)
	h.At = len(c.f.Code)
	c.deep = keeps + 1
	caught()
	c.reach(deep)
	end()
	c.f.Handlers = slices.Insert(c.f.Handlers, c.dice.Below(len(c.f.Handlers)+1), h)
}

func (c *coder) local() int { return c.dice.Below(c.f.Locals) }

// mayBeCell: a local that is a cell, mostly.
func (c *coder) mayBeCell() int {
	if c.dice.Below(6) > 0 {
		return c.dice.Below(c.first)
	}
	return c.local()
}

func (c *coder) stmt(level int) {
	c.left--
	if level <= 0 || c.left < 0 {
		c.taken(0)
		return
	}
	switch c.dice.Below(10) {
	case 0, 1, 2:
		c.taken(level)
	case 3:
		c.put(api.OpCell, c.local(), 0)
	case 4:
		for range 3 {
			c.expr(level - 1)
		}
		c.put(api.OpPut, 0, -3)
	case 5, 6:
		c.branch(level)
	case 7:
		c.turns(level)
	case 8:
		c.guarded(func() { c.stmts(level - 1) }, c.eaten)
	case 9:
		c.ends(level)
	}
}

func (c *coder) stmts(level int) {
	for range 1 + c.dice.Below(3) {
		c.stmt(level)
	}
}

// taken: a value that something takes.
func (c *coder) taken(level int) {
	c.expr(level)
	c.eaten()
}

func (c *coder) eaten() {
	switch c.dice.Below(8) {
	case 0, 1:
		c.put(api.OpStore, c.local(), -1)
	case 2:
		c.put(api.OpCellStore, c.mayBeCell(), -1)
	case 3:
		c.put(api.OpPop, 0, -1)
	case 4, 5:
		if len(c.f.Caps) > 0 {
			c.put(api.OpUpStore, c.dice.Below(len(c.f.Caps)), -1)
			return
		}
		fallthrough
	default:
		c.put(api.OpPrint, 0, -1)
	}
}

// condition: what is no Bool now and then.
func (c *coder) condition(level int) {
	switch c.dice.Below(6) {
	case 0:
		c.expr(level - 1)
	case 1, 2:
		c.put(api.OpYes, 0, 1)
	case 3:
		c.put(api.OpNo, 0, 1)
	default:
		c.expr(level - 1)
		c.expr(level - 1)
		c.put(api.OpBin, int(api.Same)+c.dice.Below(2), -1)
	}
}

func (c *coder) branch(level int) {
	c.condition(level)
	other := c.to(api.OpUnless, -1)
	c.stmts(level - 1)
	if c.dice.Below(2) == 0 {
		end := c.to(api.OpJump, 0)
		other()
		c.stmts(level - 1)
		other = end
	}
	other()
}

// turns: a loop, if the stack is empty.
func (c *coder) turns(level int) {
	if c.deep > 0 {
		c.branch(level)
		return
	}
	at := len(c.f.Code)
	c.condition(level)
	end := c.to(api.OpUnless, -1)
	c.stmts(level - 1)
	c.put(api.OpLoop, at, 0)
	end()
}

// ends: something that goes away, if something holds.
func (c *coder) ends(level int) {
	c.condition(level)
	end := c.to(api.OpUnless, -1)
	c.expr(level - 1)
	c.put([]api.Op{api.OpReturn, api.OpThrow}[c.dice.Below(2)], 0, -1)
	end()
}

func (c *coder) expr(level int) {
	c.left--
	if level <= 0 || c.left < 0 || c.deep > 40 {
		c.leaf()
		return
	}
	switch c.dice.Below(14) {
	case 0:
		c.leaf()
	case 1, 2:
		c.operands(level)()
	case 3, 4, 5:
		c.called(level)()
	case 6:
		c.condition(level)
		other := c.to(api.OpUnless, -1)
		c.expr(level - 1)
		end := c.to(api.OpJump, -1)
		other()
		c.expr(level - 1)
		end()
	case 7:
		c.guarded(func() { c.expr(level - 1) }, func() {})
	case 8:
		c.tight(level)
	case 9:
		c.item(level)
	default:
		c.operation(level)
	}
}

func (c *coder) leaf() {
	switch c.dice.Below(10) {
	case 0:
		c.put([]api.Op{api.OpNil, api.OpYes, api.OpNo}[c.dice.Below(3)], 0, 1)
	case 1, 2, 3:
		c.put(api.OpLoad, c.local(), 1)
	case 4:
		c.put(api.OpCellLoad, c.mayBeCell(), 1)
	case 5, 6:
		if len(c.f.Caps) > 0 {
			c.put(api.OpUp, c.dice.Below(len(c.f.Caps)), 1)
			return
		}
		c.put(api.OpYes, 0, 1)
	case 7:
		if c.deep > 0 {
			c.put(api.OpDup, 0, 1)
			return
		}
		c.put(api.OpNo, 0, 1)
	case 8:
		if len(c.made) > 0 {
			c.put(api.OpFn, c.made[c.dice.Below(len(c.made))], 1)
			return
		}
		fallthrough
	default:
		c.put(api.OpConst, c.dice.Below(len(c.f.Consts)), 1)
	}
}

// item: of a list, or behind its end.
func (c *coder) item(level int) {
	n := 1 + c.dice.Below(3)
	c.takes(level, n, api.OpList, n)()
	c.put(api.OpConst, c.dice.Below(len(c.f.Consts)), 1)
	c.put(api.OpGet, 0, -1)
}

// operation: an instruction that comes to something more often than not.
func (c *coder) operation(level int) {
	c.put(api.OpConst, c.dice.Below(len(c.f.Consts)), 1)
	if c.dice.Below(2) == 0 {
		c.put(api.OpConst, c.dice.Below(len(c.f.Consts)), 1)
	} else {
		c.expr(level - 1)
	}
	c.put(api.OpBin, 1+c.dice.Below(int(api.Unlike)), -1)
}

// tight: an instruction with a handler of its own, that may keep what it takes.
func (c *coder) tight(level int) {
	deep := c.deep
	if c.dice.Below(4) == 0 {
		c.expr(level - 1)
		c.guarded(func() { c.put(api.OpThrow, 0, -1) }, func() {})
	} else {
		c.guarded(c.operands(level), func() {})
	}
	c.reach(deep + 1)
}

// operands: what an instruction takes; what is answered writes it.
func (c *coder) operands(level int) func() {
	one := []api.Op{api.OpNot, api.OpNeg, api.OpLen, api.OpShow}[c.dice.Below(4)]
	switch n := c.dice.Below(4); c.dice.Below(6) {
	case 0:
		return c.takes(level, 2, api.OpBin, 1+c.dice.Below(int(api.Unlike)))
	case 1:
		return c.takes(level, 1, one, 0)
	case 2:
		return c.takes(level, n, api.OpList, n)
	case 3:
		return c.takes(level, 2*n, api.OpMap, n)
	case 4:
		return c.takes(level, 2, api.OpGet, 0)
	}
	return c.called(level)
}

func (c *coder) takes(level, n int, op api.Op, a int) func() {
	for range n {
		c.expr(level - 1)
	}
	return func() { c.put(op, a, 1-n) }
}

// called: a function that it makes, with as many values as that takes, mostly; or anything.
func (c *coder) called(level int) func() {
	n := c.dice.Below(3)
	if len(c.made) > 0 && c.dice.Below(5) > 0 {
		i := c.dice.Below(len(c.made))
		c.put(api.OpLoad, c.first+i, 1)
		if c.dice.Below(8) > 0 {
			n = c.p[c.made[i]].Params
		}
	} else {
		c.leaf()
	}
	for range n {
		c.expr(level - 1)
	}
	return func() { c.put(api.OpCall, n, -n) }
}
