package reg

import "gearbox/api"

// row is what an instruction of an Op may have.
type row struct {
	to, exit bool
	args     func(k *checker, i *api.RegIns) bool // of one whose number may be: are there as many as there may be?
	number   func(k *checker, at int) bool        // N and Kind
	ends     bool                                 // may it be the last one?
}

// rows are those of the chapter's table, by their Op.
type rows [api.RPrint + 1]row

func newRows() rows {
	one := row{to: true, args: exactly(1), number: none, exit: true}
	return rows{
		api.RConst:     {to: true, args: exactly(0), number: isConst, exit: true},
		api.RValue:     {to: true, args: exactly(0), number: isOwn},
		api.RMove:      {to: true, args: exactly(1), number: none},
		api.RCell:      one,
		api.RCellLoad:  one,
		api.RCellStore: {args: exactly(2), number: none, exit: true},
		api.RUp:        {to: true, args: exactly(0), number: isCap},
		api.RUpStore:   {args: exactly(1), number: isCap, exit: true},
		api.RBin:       {to: true, args: exactly(2), number: isBin(api.Unlike), exit: true},
		api.RNot:       one,
		api.RNeg:       one,
		api.RLen:       one,
		api.RShow:      one,
		api.RIntBin:    {to: true, args: exactly(2), number: isBin(api.Most), exit: true},
		api.RGuard:     {args: exactly(1), number: isKind, exit: true},
		api.RJump:      {args: exactly(0), number: isAbove, ends: true},
		api.RUnless:    {args: exactly(1), number: isAbove, exit: true},
		api.RLoop:      {args: exactly(0), number: isBack, exit: true, ends: true},
		api.RList:      {to: true, args: howeverMany, number: none, exit: true},
		api.RMap:       {to: true, args: even, number: none, exit: true},
		api.RGet:       {to: true, args: exactly(2), number: none, exit: true},
		api.RPut:       {args: exactly(3), number: none, exit: true},
		api.RFn:        {to: true, args: ofCells, number: isMade, exit: true},
		api.RCall:      {to: true, args: asCalled, number: none, exit: true},
		api.RReturn:    {args: exactly(1), number: none, ends: true},
		api.RThrow:     {args: exactly(1), number: none, exit: true, ends: true},
		api.RPrint:     {args: exactly(1), number: none, exit: true},
	}
}

func exactly(n int) func(*checker, *api.RegIns) bool {
	return func(_ *checker, i *api.RegIns) bool { return len(i.Args) == n }
}

func howeverMany(*checker, *api.RegIns) bool { return true }

func even(_ *checker, i *api.RegIns) bool { return len(i.Args)%2 == 0 }

// ofCells: as many as its function is made over that are the frame's own.
func ofCells(k *checker, i *api.RegIns) bool { return len(i.Args) == k.cells[i.N] }

// asCalled: as many as the call at its exit's place takes.
func asCalled(k *checker, i *api.RegIns) bool {
	call := k.fn.Code[k.code.Exits[i.Exit].Pc]
	return call.Op == api.OpCall && len(i.Args) == call.A+1
}

// number: N is from the least to the greatest one, and Kind is not named.
func number(i *api.RegIns, least, greatest int) bool {
	return i.N >= int64(least) && i.N <= int64(greatest) && i.Kind == 0
}

func none(k *checker, at int) bool { return number(&k.code.Code[at], 0, 0) }

func isConst(k *checker, at int) bool { return number(&k.code.Code[at], 0, len(k.fn.Consts)-1) }

func isCap(k *checker, at int) bool { return number(&k.code.Code[at], 0, len(k.fn.Caps)-1) }

func isAbove(k *checker, at int) bool {
	return number(&k.code.Code[at], at+1, len(k.code.Code)-1)
}

func isBack(k *checker, at int) bool { return number(&k.code.Code[at], 0, at) }

func isMade(k *checker, at int) bool {
	i := &k.code.Code[at]
	return number(i, 0, len(k.p)-1) && k.cells[i.N] >= 0
}

func isBin(last api.Bin) func(*checker, int) bool {
	return func(k *checker, at int) bool { return number(&k.code.Code[at], int(api.Add), int(last)) }
}

func isOwn(k *checker, at int) bool {
	i := &k.code.Code[at]
	return isValue(i.Kind, i.N)
}

// isKind: one of which values are that a program gets hold of.
func isKind(k *checker, at int) bool {
	i := &k.code.Code[at]
	return i.N == 0 && i.Kind < api.Cell
}
