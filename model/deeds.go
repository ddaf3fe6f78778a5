package model

import "gearbox/api"

// deeds is what each instruction does in the last frame with its number, by its Op.
type deeds [api.OpPrint + 1]func(m *machine, f *frame, a int)

func newDeeds() deeds {
	return deeds{
		api.OpConst:     (*machine).constant,
		api.OpNil:       (*machine).none,
		api.OpYes:       (*machine).yes,
		api.OpNo:        (*machine).no,
		api.OpLoad:      (*machine).load,
		api.OpStore:     (*machine).store,
		api.OpCell:      (*machine).cell,
		api.OpCellLoad:  (*machine).cellLoad,
		api.OpCellStore: (*machine).cellStore,
		api.OpUp:        (*machine).up,
		api.OpUpStore:   (*machine).upStore,
		api.OpPop:       (*machine).pop,
		api.OpDup:       (*machine).dup,
		api.OpBin:       (*machine).bin,
		api.OpNot:       (*machine).not,
		api.OpNeg:       (*machine).neg,
		api.OpLen:       (*machine).length,
		api.OpShow:      (*machine).show,
		api.OpJump:      (*machine).jump,
		api.OpUnless:    (*machine).unless,
		api.OpLoop:      (*machine).loop,
		api.OpList:      (*machine).list,
		api.OpMap:       (*machine).dict,
		api.OpGet:       (*machine).get,
		api.OpPut:       (*machine).put,
		api.OpFn:        (*machine).function,
		api.OpCall:      (*machine).call,
		api.OpReturn:    (*machine).back,
		api.OpThrow:     (*machine).raise,
		api.OpPrint:     (*machine).print,
	}
}
