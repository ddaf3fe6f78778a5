package listing

import "gearbox/api"

// word of a line that is told as it is. (A text is told in quotes.)
type word string

// The words that lines begin with, but for those of instructions.
const (
	wordFn    word = "fn"
	wordCap   word = "cap"
	wordUp    word = "up"
	wordInt   word = "int"
	wordText  word = "text"
	wordCatch word = "catch"
)

// row of the chapter's table of lines, in its order: within a function no line stands behind one of a later row.
type row uint8

const (
	noRow row = iota // there was no line yet
	fnRow
	capRow
	constRow
	insRow
	catchRow
)

// rowOf: the one of which a line is, if it is of any, by its first word.
func rowOf(first word) row {
	switch first {
	case wordFn:
		return fnRow
	case wordCap, wordUp:
		return capRow
	case wordInt, wordText:
		return constRow
	case wordCatch:
		return catchRow
	}
	return insRow
}

// mayFollow: may a line of a row stand behind one of another row?
func (r row) mayFollow(last row) bool {
	return r == fnRow || last != noRow && last <= r
}

var ops = [...]word{
	api.OpConst:     "const",
	api.OpNil:       "nil",
	api.OpYes:       "yes",
	api.OpNo:        "no",
	api.OpLoad:      "load",
	api.OpStore:     "store",
	api.OpCell:      "cell",
	api.OpCellLoad:  "cellload",
	api.OpCellStore: "cellstore",
	api.OpUp:        "up",
	api.OpUpStore:   "upstore",
	api.OpPop:       "pop",
	api.OpDup:       "dup",
	api.OpBin:       "bin",
	api.OpNot:       "not",
	api.OpNeg:       "neg",
	api.OpLen:       "len",
	api.OpShow:      "show",
	api.OpJump:      "jump",
	api.OpUnless:    "unless",
	api.OpLoop:      "loop",
	api.OpList:      "list",
	api.OpMap:       "map",
	api.OpGet:       "get",
	api.OpPut:       "put",
	api.OpFn:        "fn",
	api.OpCall:      "call",
	api.OpReturn:    "return",
	api.OpThrow:     "throw",
	api.OpPrint:     "print",
}

var bins = [...]word{
	api.Add:    "add",
	api.Sub:    "sub",
	api.Mul:    "mul",
	api.Div:    "div",
	api.Mod:    "mod",
	api.Less:   "less",
	api.Most:   "most",
	api.Same:   "same",
	api.Unlike: "unlike",
}

// opOf: OpNone, if it is no word of one.
func opOf(w word) api.Op {
	for op, x := range ops {
		if x == w {
			return api.Op(op)
		}
	}
	return api.OpNone
}

// binOf: BinNone, if it is no word of one.
func binOf(w word) api.Bin {
	for bin, x := range bins {
		if x == w {
			return api.Bin(bin)
		}
	}
	return api.BinNone
}

func hasNumber(op api.Op) bool {
	switch op {
	case api.OpConst, api.OpLoad, api.OpStore, api.OpCell, api.OpCellLoad, api.OpCellStore, api.OpUp, api.OpUpStore,
		api.OpJump, api.OpUnless, api.OpLoop, api.OpList, api.OpMap, api.OpFn, api.OpCall:
		return true
	}
	return false
}
