package machine

import "gearbox/api"

// deeds is what each instruction does in the last frame with its number, by its Op.
type deeds [api.OpPrint + 1]func(m *Machine, f *Stack, a int)

func newDeeds() deeds {
	return deeds{
		api.OpConst:     (*Machine).constant,
		api.OpNil:       (*Machine).none,
		api.OpYes:       (*Machine).yes,
		api.OpNo:        (*Machine).no,
		api.OpLoad:      (*Machine).load,
		api.OpStore:     (*Machine).store,
		api.OpCell:      (*Machine).cell,
		api.OpCellLoad:  (*Machine).cellLoad,
		api.OpCellStore: (*Machine).cellStore,
		api.OpUp:        (*Machine).up,
		api.OpUpStore:   (*Machine).upStore,
		api.OpPop:       (*Machine).pop,
		api.OpDup:       (*Machine).dup,
		api.OpBin:       (*Machine).bin,
		api.OpNot:       (*Machine).not,
		api.OpNeg:       (*Machine).neg,
		api.OpLen:       (*Machine).length,
		api.OpShow:      (*Machine).show,
		api.OpJump:      (*Machine).jump,
		api.OpUnless:    (*Machine).unless,
		api.OpLoop:      (*Machine).loop,
		api.OpList:      (*Machine).list,
		api.OpMap:       (*Machine).dict,
		api.OpGet:       (*Machine).get,
		api.OpPut:       (*Machine).put,
		api.OpFn:        (*Machine).function,
		api.OpCall:      (*Machine).call,
		api.OpReturn:    (*Machine).back,
		api.OpThrow:     (*Machine).raise,
		api.OpPrint:     (*Machine).print,
	}
}
