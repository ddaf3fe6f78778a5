package verify

import "gearbox/api"

// kind of number that an instruction has.
type kind uint8

const (
	noRow kind = iota // there is no such Op
	nought
	ofConst
	ofLocal
	ofCap
	ofBin
	placeAbove
	placeBack
	howMany
	ofFn
)

// row: what is said of the instructions of an Op.
type row struct {
	number kind
	takes  uint8 // how many values
	each   uint8 // and how many more for each one of the number
	leaves uint8
	ends   bool // is the place behind it not next to it?
}

var rows = [...]row{
	api.OpConst:     {number: ofConst, leaves: 1},
	api.OpNil:       {number: nought, leaves: 1},
	api.OpYes:       {number: nought, leaves: 1},
	api.OpNo:        {number: nought, leaves: 1},
	api.OpLoad:      {number: ofLocal, leaves: 1},
	api.OpStore:     {number: ofLocal, takes: 1},
	api.OpCell:      {number: ofLocal},
	api.OpCellLoad:  {number: ofLocal, leaves: 1},
	api.OpCellStore: {number: ofLocal, takes: 1},
	api.OpUp:        {number: ofCap, leaves: 1},
	api.OpUpStore:   {number: ofCap, takes: 1},
	api.OpPop:       {number: nought, takes: 1},
	api.OpDup:       {number: nought, takes: 1, leaves: 2},
	api.OpBin:       {number: ofBin, takes: 2, leaves: 1},
	api.OpNot:       {number: nought, takes: 1, leaves: 1},
	api.OpNeg:       {number: nought, takes: 1, leaves: 1},
	api.OpLen:       {number: nought, takes: 1, leaves: 1},
	api.OpShow:      {number: nought, takes: 1, leaves: 1},
	api.OpJump:      {number: placeAbove, ends: true},
	api.OpUnless:    {number: placeAbove, takes: 1},
	api.OpLoop:      {number: placeBack, ends: true},
	api.OpList:      {number: howMany, each: 1, leaves: 1},
	api.OpMap:       {number: howMany, each: 2, leaves: 1},
	api.OpGet:       {number: nought, takes: 2, leaves: 1},
	api.OpPut:       {number: nought, takes: 3},
	api.OpFn:        {number: ofFn, leaves: 1},
	api.OpCall:      {number: howMany, takes: 1, each: 1, leaves: 1},
	api.OpReturn:    {number: nought, takes: 1, ends: true},
	api.OpThrow:     {number: nought, takes: 1, ends: true},
	api.OpPrint:     {number: nought, takes: 1},
}

func rowOf(op api.Op) (row, bool) {
	if int(op) >= len(rows) {
		return row{}, false
	}
	return rows[op], rows[op].number != noRow
}

// behind: how deep the stack is behind an instruction; false, if it may not be done.
func behind(ins api.Ins, deep int) (int, bool) {
	row, _ := rowOf(ins.Op)
	takes := int(row.takes) + int(row.each)*ins.A
	after := deep - takes + int(row.leaves)
	return after, takes <= deep && after <= api.MaxStack && (ins.Op != api.OpLoop || deep == 0)
}
