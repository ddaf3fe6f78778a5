package trials

import (
	"slices"
	"strconv"
	"strings"

	"gearbox/api"
)

// RegWords: what the instructions of registers are called, by their Op.
func RegWords() []string {
	return strings.Fields("RNone RConst RValue RMove RCell RCellLoad RCellStore RUp RUpStore RBin RNot RNeg RLen RShow RIntBin RGuard RJump RUnless RLoop RList RMap RGet RPut RFn RCall RReturn RThrow RPrint")
}

func kindWords() []string { return strings.Fields("Nil Bool Int Text List Map Func Cell Items") }

func binWords() []string {
	return strings.Fields("None Add Sub Mul Div Mod Less Most Same Unlike")
}

func number(s string) int {
	n, err := strconv.Atoi(s)
	if err != nil {
		panic(s)
	}
	return n
}

// Between: what stands between these signs, without space around.
func Between(s, sign string) []string {
	var l []string
	for _, part := range strings.Split(s, sign) {
		if part = strings.TrimSpace(part); part != "" {
			l = append(l, part)
		}
	}
	return l
}

// line is an instruction of registers, a node or an end as words: its name; numbers; the name of a Bin, or n and a number; that of a Kind; numbers with other signs ahead of them.
type line struct {
	name   string
	args   []int
	n      int64
	kind   api.Kind
	signed map[byte][]int
}

func lineOf(s string) line {
	words := strings.Fields(s)
	l := line{name: words[0], signed: map[byte][]int{}}
	for _, word := range words[1:] {
		kind, bin := slices.Index(kindWords(), word), slices.Index(binWords(), word)
		switch {
		case kind >= 0:
			l.kind = api.Kind(kind)
		case bin >= 0:
			l.n = int64(bin)
		case word[0] == 'n':
			l.n = int64(number(word[1:]))
		case word[0] >= '0' && word[0] <= '9' || word[0] == '-':
			l.args = append(l.args, number(word))
		default:
			l.signed[word[0]] = append(l.signed[word[0]], number(word[1:]))
		}
	}
	return l
}

// one: the number that has a sign ahead of it; -1, if none has.
func (l line) one(sign byte) int {
	if len(l.signed[sign]) == 0 {
		return -1
	}
	return l.signed[sign][0]
}

// index: which of these words one is, which is one of them.
func index(words []string, word string) int {
	n := slices.Index(words, word)
	if n < 0 {
		panic(word)
	}
	return n
}

// RegIns: an instruction of registers as words: its name without the R; >To; its Args; nN, or the name of a Bin; a Kind; xExit.
func RegIns(s string) api.RegIns {
	l := lineOf(s)
	op := index(RegWords(), "R"+l.name)
	return api.RegIns{Op: api.RegOp(op), To: l.one('>'), Args: l.args, N: l.n, Kind: l.kind, Exit: l.one('x')}
}

// RegLoc: a register's number, or a value: nil, yes, no, =5.
func RegLoc(s string) api.Loc {
	switch {
	case s == "nil":
		return api.Loc{Reg: -1}
	case s == "yes":
		return api.Loc{Reg: -1, Kind: api.Bool, N: 1}
	case s == "no":
		return api.Loc{Reg: -1, Kind: api.Bool}
	case s[0] == '=':
		return api.Loc{Reg: -1, Kind: api.Int, N: int64(number(s[1:]))}
	}
	return api.Loc{Reg: number(s)}
}

// RegFn: code of so many registers; instructions, exits (Pc: slots) and entries (Pc at At: registers), each behind a semicolon.
func RegFn(n int, code, exits, entries string) api.RegFn {
	c := api.RegFn{Regs: n}
	for _, s := range Between(code, ";") {
		c.Code = append(c.Code, RegIns(s))
	}
	for _, s := range Between(exits, ";") {
		pc, slots, _ := strings.Cut(s, ":")
		x := api.Exit{Pc: number(pc)}
		for _, slot := range strings.Fields(slots) {
			x.Slots = append(x.Slots, RegLoc(slot))
		}
		c.Exits = append(c.Exits, x)
	}
	for _, s := range Between(entries, ";") {
		head, slots, _ := strings.Cut(s, ":")
		l := strings.Fields(head)
		e := api.Entry{Pc: number(l[0]), At: number(l[2])}
		for _, slot := range strings.Fields(slots) {
			e.Slots = append(e.Slots, number(slot))
		}
		c.Entries = append(c.Entries, e)
	}
	return c
}
