package parse

import "gearbox/api"

// counter counts the parts of a tree. At the first one that is too many or lies too deep it leaves with ErrLimit: so it ends soon, however great a tree is.
type counter struct{ parts int }

func checkLimits(l []api.Stmt) {
	var c counter
	c.stmts(l, 1)
}

func (c *counter) part(deep int) {
	c.parts++
	if c.parts > api.MaxParts || deep > api.MaxDeep {
		panic(fault{err: api.ErrLimit})
	}
}

func (c *counter) stmts(l []api.Stmt, deep int) {
	for i := range l {
		c.part(deep)
		c.exprs(l[i].Args, deep+1)
		c.stmts(l[i].Body, deep+1)
		c.stmts(l[i].Else, deep+1)
	}
}

func (c *counter) exprs(l []api.Expr, deep int) {
	for i := range l {
		c.part(deep)
		c.exprs(l[i].Args, deep+1)
		c.stmts(l[i].Body, deep+1)
	}
}
