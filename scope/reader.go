package scope

import (
	"slices"

	"gearbox/api"
)

// local is a name that is known, as a local of one of the open functions.
type local struct {
	name  string
	level int // which of the open functions has it
	at    int // which one of its locals it is
}

// reader goes through a tree in the order of its text. All that is known somewhere is a local of a function that is open there.
type reader struct {
	fns   []Names // of the functions that were come to
	open  []int   // the numbers of those that are not at their end yet, each within the one ahead of it
	known []local // in the order in which they were come to
}

// names: of an open function.
func (r *reader) names(level int) *Names { return &r.fns[r.open[level]] }

// inner: which of the open functions has what is come to.
func (r *reader) inner() int { return len(r.open) - 1 }

// function: one more; what is done within it is handed over.
func (r *reader) function(inside func()) {
	r.open = append(r.open, len(r.fns))
	r.fns = append(r.fns, Names{})
	r.block(inside)
	r.open = r.open[:r.inner()]
}

// block: what comes to be known within it is not known behind it.
func (r *reader) block(inside func()) {
	before := len(r.known)
	inside()
	r.known = r.known[:before]
}

func (r *reader) stmts(l []api.Stmt) {
	for i := range l {
		r.stmt(&l[i])
	}
}

// stmt: the lists that a statement's kind has not are empty.
func (r *reader) stmt(s *api.Stmt) {
	switch s.Kind {
	case api.StVar:
		r.add(s.Name, s.Line)
	case api.StSet:
		r.use(s.Name, s.Line)
	}
	r.exprs(s.Args)
	r.block(func() { r.stmts(s.Body) })
	r.block(func() {
		if s.Kind == api.StTry {
			r.add(s.Name, s.Line)
		}
		r.stmts(s.Else)
	})
}

func (r *reader) exprs(l []api.Expr) {
	for i := range l {
		r.expr(&l[i])
	}
}

func (r *reader) expr(x *api.Expr) {
	switch x.Kind {
	case api.ExName:
		r.use(x.S, x.Line)
	case api.ExFn:
		r.fn(x)
	}
	r.exprs(x.Args)
}

func (r *reader) fn(x *api.Expr) {
	demand(len(r.fns) < api.MaxFns, x.Line, api.ErrLimit)
	demand(unlike(x.Params), x.Line, api.ErrName)
	r.function(func() {
		for _, name := range x.Params {
			r.add(name, x.Line)
		}
		r.stmts(x.Body)
	})
}

// unlike: are no two names alike?
func unlike(names []string) bool {
	sorted := slices.Sorted(slices.Values(names))
	return len(slices.Compact(sorted)) == len(names)
}

// add: one more local of the innermost function, which is known from now on.
func (r *reader) add(name string, line int) {
	f := r.names(r.inner())
	demand(len(f.Locals) < api.MaxLocals, line, api.ErrLimit)
	r.known = append(r.known, local{name, r.inner(), len(f.Locals)})
	f.Locals = append(f.Locals, name)
	f.Cells = append(f.Cells, false)
}

// use: a name means the local that was come to last.
func (r *reader) use(name string, line int) {
	for _, x := range slices.Backward(r.known) {
		if x.name == name {
			r.closeOver(x)
			return
		}
	}
	panic(fault{line, api.ErrName})
}

// closeOver: a local is used in the innermost function, and so each one on the way there from the local's own is closed over it.
func (r *reader) closeOver(x local) {
	if x.level == r.inner() {
		return
	}
	r.names(x.level).Cells[x.at] = true
	c := api.Cap{N: x.at}
	for level := x.level + 1; level <= r.inner(); level++ {
		c = api.Cap{Up: true, N: number(r.names(level), c)}
	}
}

// number: of a cell that a function is closed over; a new one, if it was not yet.
func number(f *Names, c api.Cap) int {
	if n := slices.Index(f.Caps, c); n >= 0 {
		return n
	}
	f.Caps = append(f.Caps, c)
	return len(f.Caps) - 1
}
