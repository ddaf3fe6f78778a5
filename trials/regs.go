package trials

import (
	"slices"
	"strconv"
	"strings"

	"gearbox/api"
)

// RegWords: what the instructions of registers are called, by their Op.
func RegWords() []string {
	return strings.Fields("RNone RConst RValue RMove RCell RCellLoad RCellStore RUp RUpStore RBin RNot RNeg RLen RShow RIntBin RGuard RJump RUnless RLoop RList RMap RGet RPut RFn RCall RReturn RThrow RPrint")
}

func kindWords() []string { return strings.Fields("Nil Bool Int Text List Map Func Cell Items") }

func binWords() []string {
	return strings.Fields("None Add Sub Mul Div Mod Less Most Same Unlike")
}

func number(s string) int {
	n, err := strconv.Atoi(s)
	if err != nil {
		panic(s)
	}
	return n
}

// Between: what stands between these signs, without space around.
func Between(s, sign string) []string {
	var l []string
	for _, part := range strings.Split(s, sign) {
		if part = strings.TrimSpace(part); part != "" {
			l = append(l, part)
		}
	}
	return l
}

// RegIns: an instruction of registers as words: its name without the R; >To; its Args; nN, or the name of a Bin; a Kind; xExit.
func RegIns(s string) api.RegIns {
	l := strings.Fields(s)
	op := slices.Index(RegWords(), "R"+l[0])
	if op < 0 {
		panic(s)
	}
	i := api.RegIns{Op: api.RegOp(op), To: -1, Exit: -1}
	for _, word := range l[1:] {
		kind, bin := slices.Index(kindWords(), word), slices.Index(binWords(), word)
		switch {
		case kind >= 0:
			i.Kind = api.Kind(kind)
		case bin >= 0:
			i.N = int64(bin)
		case word[0] == '>':
			i.To = number(word[1:])
		case word[0] == 'n':
			i.N = int64(number(word[1:]))
		case word[0] == 'x':
			i.Exit = number(word[1:])
		default:
			i.Args = append(i.Args, number(word))
		}
	}
	return i
}

// RegLoc: a register's number, or a value: nil, yes, no, =5.
func RegLoc(s string) api.Loc {
	switch {
	case s == "nil":
		return api.Loc{Reg: -1}
	case s == "yes":
		return api.Loc{Reg: -1, Kind: api.Bool, N: 1}
	case s == "no":
		return api.Loc{Reg: -1, Kind: api.Bool}
	case s[0] == '=':
		return api.Loc{Reg: -1, Kind: api.Int, N: int64(number(s[1:]))}
	}
	return api.Loc{Reg: number(s)}
}

// RegFn: code of so many registers; instructions, exits (Pc: slots) and entries (Pc at At: registers), each behind a semicolon.
func RegFn(n int, code, exits, entries string) api.RegFn {
	c := api.RegFn{Regs: n}
	for _, s := range Between(code, ";") {
		c.Code = append(c.Code, RegIns(s))
	}
	for _, s := range Between(exits, ";") {
		pc, slots, _ := strings.Cut(s, ":")
		x := api.Exit{Pc: number(pc)}
		for _, slot := range strings.Fields(slots) {
			x.Slots = append(x.Slots, RegLoc(slot))
		}
		c.Exits = append(c.Exits, x)
	}
	for _, s := range Between(entries, ";") {
		head, slots, _ := strings.Cut(s, ":")
		l := strings.Fields(head)
		e := api.Entry{Pc: number(l[0]), At: number(l[2])}
		for _, slot := range strings.Fields(slots) {
			e.Slots = append(e.Slots, number(slot))
		}
		c.Entries = append(c.Entries, e)
	}
	return c
}
