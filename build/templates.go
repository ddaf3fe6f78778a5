package build

import "gearbox/api"

// template makes what an instruction asks for, whose number is a.
type template func(b *builder, a int)

// templates are those of all instructions, by their Op.
type templates [api.OpPrint + 1]template

func newTemplates() templates {
	return templates{
		api.OpConst:     func(b *builder, a int) { b.push(b.constant(a)) },
		api.OpNil:       value(api.Nil, 0),
		api.OpYes:       value(api.Bool, 1),
		api.OpNo:        value(api.Bool, 0),
		api.OpLoad:      func(b *builder, a int) { b.push(b.slots[a]) },
		api.OpStore:     func(b *builder, a int) { b.slots[a] = b.last(); b.drop(1) },
		api.OpCell:      func(b *builder, a int) { b.slots[a] = b.told(api.NoCell, 0, b.slots[a]) },
		api.OpCellLoad:  func(b *builder, a int) { b.push(b.told(api.NoCellLoad, 0, b.slots[a])) },
		api.OpCellStore: func(b *builder, a int) { b.told(api.NoCellStore, 0, b.slots[a], b.last()); b.drop(1) },
		api.OpUp:        func(b *builder, a int) { b.push(b.sure(api.NoUp, api.Nil, int64(a))) },
		api.OpUpStore:   func(b *builder, a int) { b.ofLast(api.NoUpStore, a, 1) },
		api.OpPop:       func(b *builder, _ int) { b.drop(1) },
		api.OpDup:       func(b *builder, _ int) { b.push(b.last()) },
		api.OpBin:       func(b *builder, a int) { b.push(b.ofLast(b.bin(a), a, 2)) },
		api.OpNot:       ofOne(api.NoNot),
		api.OpNeg:       ofOne(api.NoNeg),
		api.OpLen:       ofOne(api.NoLen),
		api.OpShow:      ofOne(api.NoShow),
		api.OpJump:      func(b *builder, a int) { b.jump(a) },
		api.OpUnless:    func(b *builder, a int) { b.unless(a) },
		api.OpLoop:      func(b *builder, a int) { b.loop(a) },
		api.OpList:      func(b *builder, a int) { b.push(b.ofLast(api.NoList, 0, a)) },
		api.OpMap:       func(b *builder, a int) { b.push(b.ofLast(api.NoMap, 0, 2*a)) },
		api.OpGet:       func(b *builder, _ int) { b.push(b.ofLast(api.NoGet, 0, 2)) },
		api.OpPut:       func(b *builder, _ int) { b.ofLast(api.NoPut, 0, 3) },
		api.OpFn:        func(b *builder, a int) { b.push(b.told(api.NoFn, a, b.ownCells(a)...)) },
		api.OpCall:      func(b *builder, a int) { b.push(b.ofLast(api.NoCall, 0, a+1)) },
		api.OpReturn:    func(b *builder, _ int) { b.end(api.BkReturn, none, []int{b.last()}) },
		api.OpThrow:     func(b *builder, _ int) { b.end(api.BkThrow, b.state(), []int{b.last()}) },
		api.OpPrint:     func(b *builder, _ int) { b.ofLast(api.NoPrint, 0, 1) },
	}
}

// value: it is put on the stack.
func value(kind api.Kind, n int64) template {
	return func(b *builder, _ int) { b.push(b.sure(api.NoValue, kind, n)) }
}

// ofOne: what comes of the last value stands where that stood.
func ofOne(op api.NodeOp) template {
	return func(b *builder, _ int) { b.push(b.ofLast(op, 0, 1)) }
}
