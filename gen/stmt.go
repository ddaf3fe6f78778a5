package gen

import "gearbox/api"

// block: what comes to be known within it is not known behind it.
func (w *writer) block(l []api.Stmt) {
	before := len(w.known)
	w.stmts(l)
	w.known = w.known[:before]
}

func (w *writer) stmts(l []api.Stmt) {
	for i := range l {
		w.stmt(&l[i])
	}
}

func (w *writer) stmt(s *api.Stmt) {
	switch s.Kind {
	case api.StVar:
		w.newVar(s)
	case api.StIf:
		w.choice(s)
	case api.StWhile:
		w.loop(s)
	case api.StTry:
		w.attempt(s)
	default:
		w.exprs(s.Args)
		op, a := w.lastOfStmt(s)
		w.put(s.Line, op, a)
	}
}

// lastOfStmt: the instruction behind the code of its Args, of a statement that has just this one.
func (w *writer) lastOfStmt(s *api.Stmt) (api.Op, int) {
	switch s.Kind {
	case api.StSet:
		return w.named(s.Name, reach{api.OpStore, api.OpCellStore, api.OpUpStore})
	case api.StPut:
		return api.OpPut, 0
	case api.StReturn:
		return api.OpReturn, 0
	case api.StPrint:
		return api.OpPrint, 0
	case api.StThrow:
		return api.OpThrow, 0
	}
	return api.OpPop, 0
}

// newVar: a cell is there ahead of its first value, since functions in that may be closed over it.
func (w *writer) newVar(s *api.Stmt) {
	n := w.add(s.Name)
	store := api.OpStore
	if w.cells[n] {
		w.put(s.Line, api.OpNil, 0)
		w.put(s.Line, api.OpStore, n)
		w.put(s.Line, api.OpCell, n)
		store = api.OpCellStore
	}
	w.exprs(s.Args)
	w.put(s.Line, store, n)
}

func (w *writer) choice(s *api.Stmt) {
	w.exprs(s.Args)
	end := w.jump(s.Line, api.OpUnless)
	w.block(s.Body)
	if len(s.Else) > 0 {
		otherwise := end
		end = w.jump(s.Line, api.OpJump)
		otherwise()
		w.block(s.Else)
	}
	end()
}

func (w *writer) loop(s *api.Stmt) {
	again := w.here()
	w.exprs(s.Args)
	end := w.jump(s.Line, api.OpUnless)
	w.block(s.Body)
	w.put(s.Line, api.OpLoop, again)
	end()
}

func (w *writer) attempt(s *api.Stmt) {
	from := w.here()
	w.block(s.Body)
	to := w.here()
	end := w.jump(s.Line, api.OpJump)
	if from < to {
		w.Handlers = append(w.Handlers, api.Handler{From: from, To: to, At: w.here()})
	}
	w.caught(s)
	end()
}

// caught: what is done with what was thrown, which the handler puts on the stack.
func (w *writer) caught(s *api.Stmt) {
	before := len(w.known)
	w.deep++
	n := w.add(s.Name)
	w.put(s.Line, api.OpStore, n)
	if w.cells[n] {
		w.put(s.Line, api.OpCell, n)
	}
	w.stmts(s.Else)
	w.known = w.known[:before]
}
