package parse

import "gearbox/api"

// list is one of a tree's lists: of statements, of expressions, or of params.
type list struct {
	stmts  []api.Stmt
	exprs  []api.Expr
	params []string
}

// place is where a list lies in memory.
type place struct {
	stmt   *api.Stmt
	expr   *api.Expr
	param  *string
	length int
}

// place: of a list that is empty there is none.
func (l list) place() (place, bool) {
	switch {
	case len(l.stmts) > 0:
		return place{stmt: &l.stmts[0], length: len(l.stmts)}, true
	case len(l.exprs) > 0:
		return place{expr: &l.exprs[0], length: len(l.exprs)}, true
	case len(l.params) > 0:
		return place{param: &l.params[0], length: len(l.params)}, true
	}
	return place{}, false
}

// mark is how far a list was gone through.
type mark int

const (
	unseen mark = iota
	open        // what is in it is gone through
	done
)

// survey asks of a tree's lists whether they may be, of each place once: lists that are handed in may share memory, and then a tree has more parts than could ever be gone through. It keeps what is to do in a list of its own, since parts may lie deeper in one another than calls should.
type survey struct {
	todo  []list
	marks map[place]mark
}

// checkTree leaves with ErrArg, if a tree is no text's.
func checkTree(l []api.Stmt) {
	s := survey{marks: map[place]mark{}}
	s.meet(list{stmts: l})
	for len(s.todo) > 0 {
		s.step()
	}
}

func demand(ok bool) {
	if !ok {
		panic(fault{err: api.ErrArg})
	}
}

// meet: a list is to be gone through. One that is within itself has no end, and no text has it.
func (s *survey) meet(l list) {
	at, ok := l.place()
	if !ok || s.marks[at] == done {
		return
	}
	demand(s.marks[at] != open)
	s.todo = append(s.todo, l)
}

// step goes through the last list that is to do; it stays there until all that is in it is done.
func (s *survey) step() {
	last := len(s.todo) - 1
	l := s.todo[last]
	at, _ := l.place()
	if s.marks[at] == unseen {
		s.marks[at] = open
		s.inside(l)
		return
	}
	s.marks[at] = done
	s.todo = s.todo[:last]
}

func (s *survey) inside(l list) {
	for i := range l.stmts {
		x := &l.stmts[i]
		demand(isStmt(*x))
		s.meet(list{exprs: x.Args})
		s.meet(list{stmts: x.Body})
		s.meet(list{stmts: x.Else})
	}
	for i := range l.exprs {
		x := &l.exprs[i]
		demand(isExpr(*x))
		s.meet(list{exprs: x.Args})
		s.meet(list{params: x.Params})
		s.meet(list{stmts: x.Body})
	}
	for _, name := range l.params {
		demand(isName(name))
	}
}
