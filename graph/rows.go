package graph

import (
	"gearbox/api"
	"gearbox/shapes"
)

// row is what a node of an Op may have.
type row struct {
	shape shapes.Shape
	state bool
}

// rows are those of the chapter's table, by their Op.
type rows [api.NoPrint + 1]row

// newRows: those of a graph that is come into with so many slots.
func newRows(slots int) rows {
	one := row{shapes.Takes(1), true}
	return rows{
		api.NoSlot:      {shapes.Numbered(slots), false},
		api.NoPhi:       {shapes.List, false}, // how many args depends on its block
		api.NoConst:     {shapes.Const, true},
		api.NoValue:     {shapes.Value, false},
		api.NoCell:      one,
		api.NoCellLoad:  one,
		api.NoCellStore: {shapes.Takes(2), true},
		api.NoUp:        {shapes.Up, false},
		api.NoUpStore:   {shapes.UpStore, true},
		api.NoBin:       {shapes.Bin(api.Unlike), true},
		api.NoNot:       one,
		api.NoNeg:       one,
		api.NoLen:       one,
		api.NoShow:      one,
		api.NoIntBin:    {shapes.Bin(api.Most), true},
		api.NoGuard:     {shapes.Guard, true},
		api.NoList:      {shapes.List, true},
		api.NoMap:       {shapes.Map, true},
		api.NoGet:       {shapes.Takes(2), true},
		api.NoPut:       {shapes.Takes(3), true},
		api.NoFn:        {shapes.Fn, true},
		api.NoCall:      {shapes.Call, true},
		api.NoPrint:     one,
	}
}

// endRow is what an end may have.
type endRow struct {
	args  int
	leads func(block, to int) bool // may a block lead to that one?
	next  int
	state bool
}

// endRows are those of all ends, by their number.
type endRows [api.BkThrow + 1]endRow

func newEndRows() endRows {
	return endRows{
		api.BkJump:   {leads: forth, next: 1},
		api.BkUnless: {args: 1, leads: forth, next: 2, state: true},
		api.BkLoop:   {leads: back, next: 1, state: true},
		api.BkReturn: {leads: forth, args: 1},
		api.BkThrow:  {leads: forth, args: 1, state: true},
	}
}

func forth(block, to int) bool { return to > block }

func back(block, to int) bool { return to <= block && to != 0 }
