package parse

import (
	"gearbox/api"
	"gearbox/lex"
)

// isName: is a text a NAME?
func isName(s string) bool {
	words, _, e := lex.Words(s)
	return e == api.OK && len(words) == 1 && isNameWord(words[0]) && words[0].S == s
}

// isStmt: may a statement be, what its lists hold aside? The fields that its row names are asked and put aside: what is left must be zero.
func isStmt(x api.Stmt) bool {
	args, named := 1, x.Name == ""
	switch x.Kind {
	case api.StVar, api.StSet:
		named = isName(x.Name)
	case api.StPut:
		args = 3
	case api.StIf:
		x.Body, x.Else = nil, nil
	case api.StWhile:
		x.Body = nil
	case api.StReturn, api.StPrint, api.StThrow, api.StDo:
	case api.StTry:
		args, named = 0, isName(x.Name)
		x.Body, x.Else = nil, nil
	default:
		return false
	}
	return named && len(x.Args) == args && len(x.Body) == 0 && len(x.Else) == 0
}

// isExpr: may an expression be, what its lists hold aside? As with statements.
func isExpr(x api.Expr) bool {
	ok := true
	n := len(x.Args)
	switch x.Kind {
	case api.ExNil:
	case api.ExBool:
		ok, x.N = x.N == 0 || x.N == 1, 0
	case api.ExInt:
		ok, x.N = x.N >= 0, 0
	case api.ExText:
		ok, x.S = len(x.S) <= api.MaxText, ""
	case api.ExName:
		ok, x.S = isName(x.S), ""
	case api.ExBin:
		ok, x.S, x.Args = n == 2 && signLevel(x.S) != levelNone, "", nil
	case api.ExNot, api.ExNeg, api.ExLen, api.ExShow:
		ok, x.Args = n == 1, nil
	case api.ExAnd, api.ExOr, api.ExGet:
		ok, x.Args = n == 2, nil
	case api.ExList:
		x.Args = nil
	case api.ExMap:
		ok, x.Args = n%2 == 0, nil
	case api.ExCall:
		ok, x.Args = n >= 1, nil
	case api.ExFn:
		ok = x.S == "" || isName(x.S)
		x.S, x.Params, x.Body = "", nil, nil
	default:
		return false
	}
	return ok && x.N == 0 && x.S == "" && len(x.Args) == 0 && len(x.Params) == 0 && len(x.Body) == 0
}
