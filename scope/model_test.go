package scope_test

import (
	"slices"

	"gearbox/api"
	"gearbox/scope"
)

// model is what stands in a tree, by places of its text: a second telling of the chapter, in which nothing is thrown away on the way, so that each question is asked of the whole.
type model struct {
	place  int
	around []int // of each function the one around it; of the main one -1
	locals []site
	uses   []site
	meant  []int // of each use which of all locals it means; below 0: none
	faults []flaw
}

// site is where a name is made known, or used.
type site struct {
	name  string
	fn    int
	place int
	end   int // up to where it is known
	line  int
}

type flaw struct {
	place int
	line  int
	err   api.Errno
}

func modelOf(l []api.Stmt) *model {
	m := &model{around: []int{-1}}
	m.stmts(l, 0)
	for i, u := range m.uses {
		m.meant = append(m.meant, m.meaning(u))
		if m.meant[i] < 0 {
			m.faults = append(m.faults, flaw{u.place, u.line, api.ErrName})
		}
	}
	for f := range m.around {
		own := m.localsOf(f)
		if len(own) > api.MaxLocals {
			x := m.locals[own[api.MaxLocals]]
			m.faults = append(m.faults, flaw{x.place, x.line, api.ErrLimit})
		}
	}
	return m
}

// next: a place more.
func (m *model) next() int {
	m.place++
	return m.place
}

func (m *model) add(name string, fn, line int) int {
	m.locals = append(m.locals, site{name: name, fn: fn, place: m.next(), line: line})
	return len(m.locals) - 1
}

func (m *model) use(name string, fn, line int) {
	m.uses = append(m.uses, site{name: name, fn: fn, place: m.next(), line: line})
}

func (m *model) end(locals ...int) {
	for _, i := range locals {
		m.locals[i].end = m.place
	}
}

func (m *model) stmts(l []api.Stmt, fn int) {
	var vars []int
	for _, s := range l {
		switch s.Kind {
		case api.StVar:
			vars = append(vars, m.add(s.Name, fn, s.Line))
		case api.StSet:
			m.use(s.Name, fn, s.Line)
		case api.StTry:
			m.stmts(s.Body, fn)
			caught := m.add(s.Name, fn, s.Line)
			m.stmts(s.Else, fn)
			m.end(caught)
			continue
		}
		m.exprs(s.Args, fn)
		m.stmts(s.Body, fn)
		m.stmts(s.Else, fn)
	}
	m.end(vars...)
}

func (m *model) exprs(l []api.Expr, fn int) {
	for _, x := range l {
		switch x.Kind {
		case api.ExName:
			m.use(x.S, fn, x.Line)
		case api.ExFn:
			m.fn(x, fn)
		default:
			m.exprs(x.Args, fn)
		}
	}
}

func (m *model) fn(x api.Expr, around int) {
	own := len(m.around)
	m.around = append(m.around, around)
	if place := m.next(); own >= api.MaxFns {
		m.faults = append(m.faults, flaw{place, x.Line, api.ErrLimit})
	}
	place := m.next()
	var params []int
	for i, s := range x.Params {
		if slices.Contains(x.Params[:i], s) {
			m.faults = append(m.faults, flaw{place, x.Line, api.ErrName})
		}
		params = append(params, m.add(s, own, x.Line))
	}
	m.stmts(x.Body, own)
	m.end(params...)
}

func (m *model) meaning(u site) int {
	meant := -1
	for i, x := range m.locals {
		if x.name == u.name && x.place < u.place && u.place <= x.end {
			meant = i
		}
	}
	return meant
}

func (m *model) localsOf(fn int) []int {
	var l []int
	for i, x := range m.locals {
		if x.fn == fn {
			l = append(l, i)
		}
	}
	return l
}

// isWithin: does a function stand in another one?
func (m *model) isWithin(fn, other int) bool {
	for fn = m.around[fn]; fn >= 0; fn = m.around[fn] {
		if fn == other {
			return true
		}
	}
	return false
}

// closed: which of all locals a function is closed over, in order.
func (m *model) closed(fn int) []int {
	var l []int
	for n, u := range m.uses {
		i := m.meant[n]
		if (u.fn == fn || m.isWithin(u.fn, fn)) && m.isWithin(fn, m.locals[i].fn) && !slices.Contains(l, i) {
			l = append(l, i)
		}
	}
	return l
}

// first: the fault that is come to first.
func (m *model) first() (int, api.Errno) {
	if len(m.faults) == 0 {
		return 0, api.OK
	}
	f := slices.MinFunc(m.faults, func(a, b flaw) int { return a.place - b.place })
	return f.line, f.err
}

// names: of all functions of a tree without faults.
func (m *model) names() []scope.Names {
	l := make([]scope.Names, len(m.around))
	closed := make([][]int, len(l))
	cells := map[int]bool{}
	for fn := range l {
		closed[fn] = m.closed(fn)
		for _, i := range closed[fn] {
			cells[i] = true
		}
	}
	for fn := range l {
		f := &l[fn]
		for _, i := range m.localsOf(fn) {
			f.Locals, f.Cells = append(f.Locals, m.locals[i].name), append(f.Cells, cells[i])
		}
		for _, i := range closed[fn] {
			around := m.around[fn]
			if n := slices.Index(m.localsOf(around), i); n >= 0 {
				f.Caps = append(f.Caps, api.Cap{N: n})
			} else {
				f.Caps = append(f.Caps, api.Cap{Up: true, N: slices.Index(closed[around], i)})
			}
		}
	}
	return l
}
