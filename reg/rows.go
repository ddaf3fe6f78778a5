package reg

import (
	"gearbox/api"
	"gearbox/shapes"
)

// row is what an instruction of an Op may have.
type row struct {
	to, exit bool
	shape    shapes.Shape          // but for where it leads to
	leads    func(at, to int) bool // may one at a place lead to that one? nil: it leads nowhere
	ends     bool                  // may it be the last one?
}

// rows are those of the chapter's table, by their Op.
type rows [api.RPrint + 1]row

func newRows() rows {
	one := row{to: true, shape: shapes.Takes(1), exit: true}
	return rows{
		api.RConst:     {to: true, shape: shapes.Const, exit: true},
		api.RValue:     {to: true, shape: shapes.Value},
		api.RMove:      {to: true, shape: shapes.Takes(1)},
		api.RCell:      one,
		api.RCellLoad:  one,
		api.RCellStore: {shape: shapes.Takes(2), exit: true},
		api.RUp:        {to: true, shape: shapes.Up},
		api.RUpStore:   {shape: shapes.UpStore, exit: true},
		api.RBin:       {to: true, shape: shapes.Bin(api.Unlike), exit: true},
		api.RNot:       one,
		api.RNeg:       one,
		api.RLen:       one,
		api.RShow:      one,
		api.RIntBin:    {to: true, shape: shapes.Bin(api.Most), exit: true},
		api.RGuard:     {shape: shapes.Guard, exit: true},
		api.RJump:      {shape: shapes.Takes(0), leads: above, ends: true},
		api.RUnless:    {shape: shapes.Takes(1), leads: above, exit: true},
		api.RLoop:      {shape: shapes.Takes(0), leads: back, exit: true, ends: true},
		api.RList:      {to: true, shape: shapes.List, exit: true},
		api.RMap:       {to: true, shape: shapes.Map, exit: true},
		api.RGet:       {to: true, shape: shapes.Takes(2), exit: true},
		api.RPut:       {shape: shapes.Takes(3), exit: true},
		api.RFn:        {to: true, shape: shapes.Fn, exit: true},
		api.RCall:      {to: true, shape: shapes.Call, exit: true},
		api.RReturn:    {shape: shapes.Takes(1), ends: true},
		api.RThrow:     {shape: shapes.Takes(1), exit: true, ends: true},
		api.RPrint:     {shape: shapes.Takes(1), exit: true},
	}
}

func above(at, to int) bool { return to > at }

func back(at, to int) bool { return to <= at }
