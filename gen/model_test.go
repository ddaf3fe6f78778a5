package gen_test

import (
	"maps"
	"slices"

	"gearbox/api"
)

// A second telling of the chapter: code is put together of pieces with labels, of which each construct answers its own; what names mean stands with them as the locals themselves. Which of these are cells, and which places labels are, is asked when all of it is there.

// variable is a local of a function of the model.
type variable struct {
	fn   *function
	at   int
	cell bool
}

type function struct {
	around    *function
	out       api.Fn
	line      int
	variables int
	closed    []*variable
	pieces    []piece
	need      int // how deep its stack comes to be
}

// piece is an instruction, or what stands between two.
type piece struct {
	line    int
	op      api.Op
	a       int
	mark    *label    // of no instruction: the label is here
	to      *label    // A is its place
	name    *variable // A is its number; op is OpLoad or OpStore, or OpCell, or OpNil
	direct  bool      // a local, be it a cell or not
	ifCell  bool      // there only if name is a cell
	handler [3]*label // of no instruction: one more handler
}

type label struct{ place int }

type names map[string]*variable

type model struct{ fns []*function }

// modelOf: what Code should answer of a tree that scope finds no fault with.
func modelOf(l []api.Stmt) (api.Program, api.Errno) {
	m := &model{}
	m.fn(nil, api.Expr{Body: l}, names{})
	var p api.Program
	for _, f := range m.fns {
		f.assemble()
		if f.need > api.MaxStack || len(f.out.Code) > api.MaxCode {
			return nil, api.ErrLimit
		}
		p = append(p, f.out)
	}
	return p, api.OK
}

func (m *model) fn(around *function, x api.Expr, known names) int {
	f := &function{around: around, line: x.Line, need: 1}
	m.fns = append(m.fns, f)
	number := len(m.fns) - 1
	f.out.Name, f.out.Params = x.S, len(x.Params)
	known = maps.Clone(known)
	for _, s := range x.Params {
		known[s] = f.local()
		f.pieces = append(f.pieces, piece{line: x.Line, op: api.OpCell, name: known[s], direct: true, ifCell: true})
	}
	f.pieces = slices.Concat(f.pieces, m.stmts(f, x.Body, known), []piece{{line: x.Line, op: api.OpNil}, {line: x.Line, op: api.OpReturn}})
	return number
}

func (f *function) local() *variable {
	f.variables++
	return &variable{fn: f, at: f.variables - 1}
}

// use: what a name means, in a function that is closed over it then, if it is no local of its own.
func (f *function) use(known names, s string) *variable {
	v := known[s]
	for g := f; g != v.fn; g = g.around {
		v.cell = true
		if !slices.Contains(g.closed, v) {
			g.closed = append(g.closed, v)
		}
	}
	return v
}

func (m *model) stmts(f *function, l []api.Stmt, known names) []piece {
	known = maps.Clone(known)
	var out []piece
	for _, s := range l {
		out = append(out, m.stmt(f, s, known)...)
	}
	return out
}

func (m *model) stmt(f *function, s api.Stmt, known names) []piece {
	one := func(op api.Op) []piece { return []piece{{line: s.Line, op: op}} }
	jump := func(op api.Op, to *label) []piece { return []piece{{line: s.Line, op: op, to: to}} }
	for i, x := range s.Args {
		f.need = max(f.need, i+need(x))
	}
	switch s.Kind {
	case api.StVar:
		v := f.local()
		known[s.Name] = v
		f.need = max(f.need, 1)
		return slices.Concat([]piece{
			{line: s.Line, op: api.OpNil, name: v, ifCell: true},
			{line: s.Line, op: api.OpStore, name: v, direct: true, ifCell: true},
			{line: s.Line, op: api.OpCell, name: v, direct: true, ifCell: true},
		}, m.exprs(f, s.Args, known), []piece{{line: s.Line, op: api.OpStore, name: v}})
	case api.StSet:
		v := f.use(known, s.Name)
		return append(m.exprs(f, s.Args, known), piece{line: s.Line, op: api.OpStore, name: v})
	case api.StIf:
		other, end := &label{}, &label{}
		e, b, o := m.exprs(f, s.Args, known), m.stmts(f, s.Body, known), m.stmts(f, s.Else, known)
		if len(s.Else) == 0 {
			return slices.Concat(e, jump(api.OpUnless, end), b, here(end))
		}
		return slices.Concat(e, jump(api.OpUnless, other), b, jump(api.OpJump, end), here(other), o, here(end))
	case api.StWhile:
		top, end := &label{}, &label{}
		e, b := m.exprs(f, s.Args, known), m.stmts(f, s.Body, known)
		return slices.Concat(here(top), e, jump(api.OpUnless, end), b, jump(api.OpLoop, top), here(end))
	case api.StTry:
		return m.try(f, s, known)
	}
	last := map[api.StmtKind]api.Op{api.StPut: api.OpPut, api.StReturn: api.OpReturn, api.StPrint: api.OpPrint, api.StThrow: api.OpThrow, api.StDo: api.OpPop}
	return slices.Concat(m.exprs(f, s.Args, known), one(last[s.Kind]))
}

func here(l *label) []piece { return []piece{{mark: l}} }

func (m *model) try(f *function, s api.Stmt, known names) []piece {
	from, to, at, end := &label{}, &label{}, &label{}, &label{}
	b := m.stmts(f, s.Body, known)
	if len(s.Body) > 0 {
		b = slices.Concat(here(from), b, here(to), []piece{{handler: [3]*label{from, to, at}}})
	}
	known = maps.Clone(known)
	v := f.local()
	known[s.Name] = v
	return slices.Concat(b, []piece{
		{line: s.Line, op: api.OpJump, to: end},
		{mark: at},
		{line: s.Line, op: api.OpStore, name: v, direct: true},
		{line: s.Line, op: api.OpCell, name: v, direct: true, ifCell: true},
	}, m.stmts(f, s.Else, known), here(end))
}

func (m *model) exprs(f *function, l []api.Expr, known names) []piece {
	var out []piece
	for _, x := range l {
		out = append(out, m.expr(f, x, known)...)
	}
	return out
}

func (m *model) expr(f *function, x api.Expr, known names) []piece {
	one := func(op api.Op, a int) []piece { return []piece{{line: x.Line, op: op, a: a}} }
	jump := func(op api.Op, to *label) []piece { return []piece{{line: x.Line, op: op, to: to}} }
	switch x.Kind {
	case api.ExName:
		return []piece{{line: x.Line, op: api.OpLoad, name: f.use(known, x.S)}}
	case api.ExFn:
		return one(api.OpFn, m.fn(f, x, known))
	case api.ExInt, api.ExText:
		return one(api.OpConst, f.number(x))
	case api.ExBool:
		return one(api.OpNo-api.Op(x.N), 0)
	case api.ExAnd:
		end := &label{}
		a, b := m.expr(f, x.Args[0], known), m.expr(f, x.Args[1], known)
		return slices.Concat(a, one(api.OpDup, 0), jump(api.OpUnless, end), one(api.OpPop, 0), b, here(end))
	case api.ExOr:
		more, end := &label{}, &label{}
		a, b := m.expr(f, x.Args[0], known), m.expr(f, x.Args[1], known)
		return slices.Concat(a, one(api.OpDup, 0), jump(api.OpUnless, more), jump(api.OpJump, end), here(more), one(api.OpPop, 0), b, here(end))
	}
	type ins struct {
		op api.Op
		a  int
	}
	n := len(x.Args)
	last := map[api.ExprKind]ins{
		api.ExNil: {api.OpNil, 0}, api.ExBin: {api.OpBin, 1 + slices.Index([]string{"+", "-", "*", "/", "%", "<", "<=", "==", "!="}, x.S)},
		api.ExNot: {api.OpNot, 0}, api.ExNeg: {api.OpNeg, 0}, api.ExLen: {api.OpLen, 0}, api.ExShow: {api.OpShow, 0},
		api.ExList: {api.OpList, n}, api.ExMap: {api.OpMap, n / 2}, api.ExGet: {api.OpGet, 0}, api.ExCall: {api.OpCall, n - 1},
	}[x.Kind]
	return slices.Concat(m.exprs(f, x.Args, known), one(last.op, last.a))
}

// number: of a constant.
func (f *function) number(x api.Expr) int {
	c := api.Const{Kind: api.Int, N: x.N, S: x.S}
	if x.Kind == api.ExText {
		c.Kind = api.Text
	}
	if !slices.Contains(f.out.Consts, c) {
		f.out.Consts = append(f.out.Consts, c)
	}
	return slices.Index(f.out.Consts, c)
}

// need: how deep a stack an expression needs, by its parts.
func need(x api.Expr) int {
	most := 1
	for i, y := range x.Args {
		if x.Kind == api.ExAnd || x.Kind == api.ExOr {
			i = 0 // the second one stands where the first one stood
		}
		most = max(most, i+need(y))
	}
	if x.Kind == api.ExAnd || x.Kind == api.ExOr {
		most = max(most, 2)
	}
	return most
}

// there: is a piece an instruction?
func (p piece) there() bool {
	return p.op != api.OpNone && !(p.ifCell && !p.name.cell)
}

// assemble: what a function is.
func (f *function) assemble() {
	f.out.Locals = f.variables
	for _, v := range f.closed {
		if v.fn == f.around {
			f.out.Caps = append(f.out.Caps, api.Cap{N: v.at})
		} else {
			f.out.Caps = append(f.out.Caps, api.Cap{Up: true, N: slices.Index(f.around.closed, v)})
		}
	}
	place := 0
	for _, p := range f.pieces {
		if p.mark != nil {
			p.mark.place = place
		}
		if p.there() {
			place++
		}
	}
	for _, p := range f.pieces {
		if h := p.handler; h[0] != nil {
			f.out.Handlers = append(f.out.Handlers, api.Handler{From: h[0].place, To: h[1].place, At: h[2].place})
		}
		if p.there() {
			f.out.Code = append(f.out.Code, f.instruction(p))
			f.out.Lines = append(f.out.Lines, p.line)
		}
	}
}

func (f *function) instruction(p piece) api.Ins {
	switch {
	case p.to != nil:
		return api.Ins{Op: p.op, A: p.to.place}
	case p.name == nil:
		return api.Ins{Op: p.op, A: p.a}
	case p.op == api.OpNil:
		return api.Ins{Op: p.op}
	case p.name.fn != f:
		return api.Ins{Op: map[api.Op]api.Op{api.OpLoad: api.OpUp, api.OpStore: api.OpUpStore}[p.op], A: slices.Index(f.closed, p.name)}
	case p.name.cell && !p.direct:
		return api.Ins{Op: map[api.Op]api.Op{api.OpLoad: api.OpCellLoad, api.OpStore: api.OpCellStore}[p.op], A: p.name.at}
	}
	return api.Ins{Op: p.op, A: p.name.at}
}
