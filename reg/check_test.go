package reg_test

import (
	"math"
	"slices"
	"strconv"
	"strings"
	"testing"

	"gearbox/api"
	"gearbox/reg"
	"gearbox/samples"
	"gearbox/trials"
	"gearbox/verify"
)

// table: the chapter's, a line for each row: its name, whether it has a To, how many Args, what N and Kind are, whether it has an Exit, whether it may be the last one.
const table = `
RConst to 0 const exit
RValue to 0 value
RMove to 1 0
RCell to 1 0 exit
RCellLoad to 1 0 exit
RCellStore - 2 0 exit
RUp to 0 cap
RUpStore - 1 cap exit
RBin to 2 bin exit
RNot to 1 0 exit
RNeg to 1 0 exit
RLen to 1 0 exit
RShow to 1 0 exit
RIntBin to 2 intbin exit
RGuard - 1 kind exit
RJump - 0 above last
RUnless - 1 above exit
RLoop - 0 back exit last
RList to any 0 exit
RMap to even 0 exit
RGet to 2 0 exit
RPut - 3 0 exit
RFn to cells fn exit
RCall to called 0 exit
RReturn - 1 0 last
RThrow - 1 0 exit last
RPrint - 1 0 exit
`

// rowsOf: the table's, by their names.
func rowsOf() map[string][]string {
	m := map[string][]string{}
	for _, line := range trials.Between(table, "\n") {
		l := strings.Fields(line)
		m[l[0]] = l[1:]
	}
	return m
}

var rowOf = rowsOf()

// tells: may it be code of the function? As the chapter says it.
func tells(p api.Program, fn int, c api.RegFn) bool {
	depths, _ := verify.Depths(p, fn)
	f := p[fn]
	if c.Regs < 0 || c.Regs > 4096 || len(c.Code) == 0 {
		return false
	}
	is := func(r int) bool { return 0 <= r && r < c.Regs }
	cameTo := func(pc, slots int) bool {
		return 0 <= pc && pc < len(depths) && depths[pc] != -1 && slots == f.Locals+depths[pc]
	}
	for _, x := range c.Exits {
		if !cameTo(x.Pc, len(x.Slots)) {
			return false
		}
		for _, l := range x.Slots {
			own := l == api.Loc{Reg: -1} || l == api.Loc{Reg: -1, Kind: api.Bool} || l == api.Loc{Reg: -1, Kind: api.Bool, N: 1} || l == api.Loc{Reg: -1, Kind: api.Int, N: l.N}
			if !own && (!is(l.Reg) || l.Kind != 0 || l.N != 0) {
				return false
			}
		}
	}
	for n, e := range c.Entries {
		if !cameTo(e.Pc, len(e.Slots)) || e.At < 0 || e.At >= len(c.Code) {
			return false
		}
		for _, other := range c.Entries[:n] {
			if other.Pc == e.Pc {
				return false
			}
		}
		for k, r := range e.Slots {
			if !is(r) || slices.Contains(e.Slots[:k], r) {
				return false
			}
		}
	}
	for at := range c.Code {
		if !tellsRow(p, f, c, at) {
			return false
		}
	}
	return slices.Contains(rowOf[trials.RegWords()[c.Code[len(c.Code)-1].Op]], "last")
}

// tellsRow: is an instruction one of the rows?
func tellsRow(p api.Program, f api.Fn, c api.RegFn, at int) bool {
	i := c.Code[at]
	if int(i.Op) >= len(trials.RegWords()) {
		return false
	}
	row, is := rowOf[trials.RegWords()[i.Op]]
	if !is {
		return false
	}
	if row[0] == "to" && (i.To < 0 || i.To >= c.Regs) || row[0] != "to" && i.To != -1 {
		return false
	}
	if exit := slices.Contains(row, "exit"); exit && (i.Exit < 0 || i.Exit >= len(c.Exits)) || !exit && i.Exit != -1 {
		return false
	}
	for _, r := range i.Args {
		if r < 0 || r >= c.Regs {
			return false
		}
	}
	return tellsNumber(p, f, len(c.Code), at, i, row[2]) && tellsArgs(p, f, c, i, row[1])
}

func tellsNumber(p api.Program, f api.Fn, places, at int, i api.RegIns, what string) bool {
	switch what {
	case "kind":
		return i.N == 0 && slices.Contains([]api.Kind{api.Nil, api.Bool, api.Int, api.Text, api.List, api.Map, api.Func}, i.Kind)
	case "value":
		return i.Kind == api.Nil && i.N == 0 || i.Kind == api.Bool && (i.N == 0 || i.N == 1) || i.Kind == api.Int
	}
	if i.Kind != 0 {
		return false
	}
	below := func(n int) bool { return 0 <= i.N && i.N < int64(n) }
	switch what {
	case "const":
		return below(len(f.Consts))
	case "cap":
		return below(len(f.Caps))
	case "bin":
		return i.N >= 1 && i.N <= 9
	case "intbin":
		return i.N >= 1 && i.N <= 7
	case "above":
		return below(places) && i.N > int64(at)
	case "back":
		return below(at + 1)
	case "fn":
		return below(len(p)) && slices.ContainsFunc(f.Code, func(o api.Ins) bool { return o.Op == api.OpFn && int64(o.A) == i.N })
	}
	return i.N == 0
}

func tellsArgs(p api.Program, f api.Fn, c api.RegFn, i api.RegIns, what string) bool {
	switch what {
	case "any":
		return true
	case "even":
		return len(i.Args)%2 == 0
	case "cells":
		n := 0
		for _, k := range p[i.N].Caps {
			if !k.Up {
				n++
			}
		}
		return len(i.Args) == n
	case "called":
		o := f.Code[c.Exits[i.Exit].Pc]
		return o.Op == api.OpCall && o.A+1 == len(i.Args)
	}
	return strconv.Itoa(len(i.Args)) == what
}

// wantCheck: what is answered of code of a function of a program that may be.
func wantCheck(t *testing.T, p api.Program, fn int, c api.RegFn, may bool) {
	t.Helper()
	want := api.ErrForm
	if may {
		want = api.OK
	}
	if e := reg.Check(p, fn, c); e != want {
		t.Errorf("%scode of %d: %s: %d, want %d", brief(p), fn, brief(c), e, want)
	}
}

// checked: what is answered is what the chapter says.
func checked(t *testing.T, p api.Program, fn int, c api.RegFn) bool {
	t.Helper()
	may := tells(p, fn, c)
	wantCheck(t, p, fn, c, may)
	return may
}

// inner: a program whose function 1 is over two cells and makes function 2 over five, of which two are its own locals, and 3 over none; there are 4 and 5, which main makes, or nobody.
func inner() api.Program {
	return api.Program{
		trials.Fn("Fn 1 Print Fn 4 Return", trials.Locals(3)),
		trials.Fn("Fn 2 Const 1 Const Call 2 Pop Fn 3 Call Return Nil Call 1 Fn 5 Return", trials.Locals(2), trials.Consts(5, "text", 7), trials.Caps(api.Cap{N: 1}, api.Cap{N: 2})),
		trials.Fn("Nil Return", trials.Params(2), trials.Caps(api.Cap{N: 1}, api.Cap{Up: true}, api.Cap{N: 0}, api.Cap{Up: true, N: 1}, api.Cap{Up: true})),
		trials.Fn("Nil Return"),
		trials.Fn("Nil Return"),
		trials.Fn("Nil Return"),
	}
}

// rights: an instruction of each row as it may be, in code of inner's function 1 with these exits, at place 1 of 3.
const (
	rights     = "Const >0 n1 x0; Value >1 Bool n1; Move >2 3; Cell >0 3 x0; CellLoad >0 3 x0; CellStore 3 2 x0; Up >0 n1; UpStore 2 n1 x0; Bin >0 1 2 Unlike x0; Not >0 1 x0; Neg >0 1 x0; Len >0 1 x0; Show >0 1 x0; IntBin >0 1 2 Most x0; Guard 1 Func x0; Jump n2; Unless 1 n2 x0; Loop n1 x0; List >0 1 2 3 x0; Map >0 1 2 x0; Get >0 1 2 x0; Put 1 2 3 x0; Fn >0 1 2 n2 x0; Call >0 1 2 3 x1; Return 0; Throw 3 x0; Print 3 x0"
	rightExits = "0: 0 1; 3: 0 1 2 3 3; 6: 3 2 1; 7: nil yes =3"
)

// right: code of inner's function 1 with an instruction at place 1.
func right(i api.RegIns) api.RegFn {
	c := regs(4, "Value >0; Value >0; Return 0", rightExits, "0 at 0: 0 1")
	c.Code[1] = i
	return c
}

// P14.1: each row with each of its fields as it may be and as it may not, one by one and by twos.
func TestRows(t *testing.T) {
	t.Parallel()
	p := inner()
	regsTo := []int{-2, -1, 0, 3, 4, math.MaxInt, math.MinInt}
	exits := []int{-2, -1, 0, 1, 2, 3, 4, math.MaxInt, math.MinInt}
	args := [][]int{nil, {0}, {3}, {4}, {-1}, {0, 0}, {0, 3}, {0, 4}, {4, 0}, {1, 2, 3}, {1, 2, -1}, {1, 2, 4}, {0, 1, 2, 3}, {0, 0, 0, 0, 0}, slices.Repeat([]int{1}, 300)}
	numbers := []int64{math.MinInt64, -1, 0, 1, 2, 3, 4, 5, 6, 7, 8, 9, 10, 255, 256, 257, math.MaxInt64, 1 << 32, 1<<32 + 1}
	seen := map[api.RegOp]int{}
	try := func(i api.RegIns, change ...func(*api.RegIns)) {
		for _, c := range change {
			c(&i)
		}
		if checked(t, p, 1, right(i)) {
			seen[i.Op]++
		}
	}
	for _, s := range trials.Between(rights, ";") {
		i := ins(s)
		wantCheck(t, p, 1, right(i), true)
		var changes []func(*api.RegIns)
		for _, to := range regsTo {
			changes = append(changes, func(i *api.RegIns) { i.To = to })
		}
		for _, x := range exits {
			changes = append(changes, func(i *api.RegIns) { i.Exit = x })
		}
		for _, l := range args {
			changes = append(changes, func(i *api.RegIns) { i.Args = l })
		}
		for _, n := range numbers {
			changes = append(changes, func(i *api.RegIns) { i.N = n })
		}
		for k := range api.Items + 2 {
			changes = append(changes, func(i *api.RegIns) { i.Kind = k })
		}
		changes = append(changes, func(i *api.RegIns) { i.Kind = 255 })
		for n, one := range changes {
			try(i, one)
			for _, other := range changes[:n] {
				try(i, one, other)
			}
		}
	}
	for op := api.RConst; op <= api.RPrint; op++ {
		if seen[op] < 5 {
			t.Error(trials.RegWords()[op], seen[op])
		}
	}
}

// P14.1: some of these as they stand in the chapter, so that both are not wrong alike.
func TestRowsTold(t *testing.T) {
	for s, may := range map[string]bool{
		"Const >0 n2 x0": true, "Const >0 n3 x0": false, "Const >0 n-1 x0": false, "Const >0 n0": false, "Const n0 x0": false, "Const >0 0 n0 x0": false, "Const >0 Int n0 x0": false,
		"Value >0": true, "Value >0 n1": false, "Value >0 Bool n2": false, "Value >0 Bool n-1": false, "Value >0 Int n-8": true, "Value >0 Text": false, "Value >0 Cell": false, "Value >0 x0": false, "Value >0 0": false, "Value": false, "Value >4": false,
		"Move >0 0": true, "Move >0": false, "Move >0 0 0": false, "Move >0 4": false, "Move >0 0 x0": false, "Move >0 0 n1": false, "Move 0": false,
		"Cell >0 0 x0": true, "Cell >0 0": false, "Cell >0 0 n1 x0": false, "Cell >0 x0": false, "Cell 0 x0": false,
		"CellStore 0 1 x0": true, "CellStore >0 0 1 x0": false, "CellStore 0 x0": false, "CellStore 0 1 2 x0": false, "CellStore 0 1": false,
		"Up >0 n0": true, "Up >0 n1": true, "Up >0 n2": false, "Up >0 n-1": false, "Up >0 n0 x0": false, "UpStore 0 n1 x0": true, "UpStore 0 n2 x0": false, "UpStore 0 n1": false, "UpStore n1 x0": false,
		"Bin >0 0 1 Add x0": true, "Bin >0 0 1 Same x0": true, "Bin >0 0 1 Unlike x0": true, "Bin >0 0 1 n0 x0": false, "Bin >0 0 1 n10 x0": false, "Bin >0 0 1 Add": false, "Bin >0 0 Add x0": false,
		"IntBin >0 0 1 Add x0": true, "IntBin >0 0 1 Most x0": true, "IntBin >0 0 1 Same x0": false, "IntBin >0 0 1 Unlike x0": false, "IntBin >0 0 1 n0 x0": false,
		"Guard 0 Nil x0": true, "Guard 0 Func x0": true, "Guard 0 Cell x0": false, "Guard 0 Items x0": false, "Guard 0 Int n1 x0": false, "Guard >0 0 Int x0": false, "Guard 0 Int": false,
		"Jump n2": true, "Jump n1": false, "Jump n0": false, "Jump n3": false, "Jump n2 x0": false, "Jump 0 n2": false, "Unless 0 n2 x0": true, "Unless 0 n1 x0": false, "Unless 0 n3 x0": false, "Unless n2 x0": false, "Unless 0 n2": false,
		"Loop n0 x0": true, "Loop n1 x0": true, "Loop n2 x0": false, "Loop n-1 x0": false, "Loop n0": false, "Loop 0 n0 x0": false,
		"List >0 x0": true, "List >0 0 0 0 0 0 x0": true, "List >0 0": false, "List 0 x0": false, "Map >0 x0": true, "Map >0 0 x0": false, "Map >0 0 1 x0": true, "Map >0 0 1 2 x0": false,
		"Get >0 0 1 x0": true, "Get >0 0 x0": false, "Get 0 1 x0": false, "Put 0 1 2 x0": true, "Put 0 1 x0": false, "Put >0 0 1 2 x0": false,
		"Fn >0 0 1 n2 x0": true, "Fn >0 0 n2 x0": false, "Fn >0 0 1 2 n2 x0": false, "Fn >0 n3 x0": true, "Fn >0 0 n3 x0": false, "Fn >0 n5 x0": true, "Fn >0 n4 x0": false, "Fn >0 n1 x0": false, "Fn >0 n0 x0": false, "Fn >0 n6 x0": false, "Fn >0 n3": false,
		"Call >0 0 1 2 x1": true, "Call >0 0 1 x1": false, "Call >0 0 1 2 3 x1": false, "Call >0 x1": false, "Call >0 0 x2": true, "Call >0 0 1 2 x2": false, "Call >0 0 x3": false, "Call >0 0 x0": false, "Call >0 0": false, "Call 0 x2": false,
		"Return 0": true, "Return": false, "Return 0 x0": false, "Return >0 0": false, "Return 0 1": false, "Throw 0 x0": true, "Throw 0": false, "Print 0 x0": true, "Print 0": false, "Print >0 0 x0": false, "None": false,
	} {
		wantCheck(t, inner(), 1, right(ins(s)), may)
	}
	for op := 0; op < 256; op++ {
		wantCheck(t, inner(), 1, right(api.RegIns{Op: api.RegOp(op), To: 0, Exit: -1}), op == int(api.RValue) || op == int(api.RUp))
	}
}

// P14.1: registers are at most so many, and each is below their number.
func TestRegs(t *testing.T) {
	p := api.Program{trials.Fn("Nil Return")}
	for n, may := range map[int]bool{math.MinInt: false, -1: false, 0: false, 1: true, 4095: true, 4096: true, 4097: false, math.MaxInt: false} {
		wantCheck(t, p, 0, regs(n, "Value >0; Return 0", "", ""), may)
	}
	loop := regs(0, "Loop n0 x0", "0:", "0 at 0:")
	wantCheck(t, p, 0, loop, true) // without registers
	wantCheck(t, p, 0, regs(4096, "Value >4095; Return 4095", "1: 4095", ""), true)
	wantCheck(t, p, 0, regs(4096, "Value >4096; Return 0", "", ""), false)
	wantCheck(t, p, 0, regs(4096, "Value >0; Return 4096", "", ""), false)
	wantCheck(t, p, 0, regs(4096, "Value >0; Return 0", "1: 4096", ""), false)
	wantCheck(t, p, 0, regs(2, "Value >0; Return 0", "1: 1", ""), true)
	wantCheck(t, p, 0, regs(1, "Value >0; Return 0", "1: 1", ""), false)
}

// P14.1: the last instruction.
func TestLast(t *testing.T) {
	p := api.Program{trials.Fn("Nil Return")}
	for code, may := range map[string]bool{
		"": false, "Return 0": true, "Throw 0 x0": true, "Loop n0 x0": true, "Value >0": false, "Print 0 x0": false, "Jump n1": false, "Jump n0": false, "Unless 0 n1 x0": false,
		"Return 0; Return 0": true, "Return 0; Value >0": false, "Jump n1; Return 0": true, "Jump n1; Jump n1": false, "Unless 0 n1 x0; Throw 0 x0": true, "Return 0; Loop n1 x0": true, "Return 0; Loop n2 x0": false,
	} {
		wantCheck(t, p, 0, regs(1, code, "0:", ""), may)
	}
}

// P14.1: exits: all of them, also those that no instruction has.
func TestExits(t *testing.T) {
	// place 3 is not come to; 2 locals; at 1, 2 the stack is 1 deep
	p := api.Program{trials.Fn("Nil Pop Jump 4 Pop Nil Return", trials.Locals(2))}
	for exit, may := range map[string]bool{
		"0: 0 1": true, "1: 0 1 2": true, "2: 0 1": true, "4: 0 1": true, "5: 0 1 2": true, "3: 0 1": false, "3: 0 1 2": false, "6: 0 1": false, "-1: 0 1": false,
		"0:": false, "0: 0": false, "0: 0 1 2": false, "1: 0 1": false, "1: 0 1 2 0": false, "5:": false,
		"0: 0 0": true, "0: 2 2": true, "0: 3 0": false, "0: 0 3": false, "0: -1 0": true, "0: -2 0": false,
		"0: nil yes": true, "0: no =5": true, "0: =-9223372036854775808 0": true,
		"0: 0 1; 0: 0 1": true, "0: 0 1; 0: 0": false, "0: 0; 0: 0 1": false,
	} {
		wantCheck(t, p, 0, regs(3, "Return 0", exit, ""), may)
	}
	for _, c := range []struct {
		loc api.Loc
		may bool
	}{
		{api.Loc{}, true}, {api.Loc{Reg: 2}, true}, {api.Loc{Reg: 2, Kind: api.Bool}, false}, {api.Loc{Reg: 2, Kind: api.Int}, false}, {api.Loc{N: 1}, false}, {api.Loc{Reg: 3}, false}, {api.Loc{Reg: math.MaxInt}, false}, {api.Loc{Reg: math.MinInt}, false},
		{api.Loc{Reg: -1}, true}, {api.Loc{Reg: -1, N: 1}, false}, {api.Loc{Reg: -1, Kind: api.Bool}, true}, {api.Loc{Reg: -1, Kind: api.Bool, N: 1}, true}, {api.Loc{Reg: -1, Kind: api.Bool, N: 2}, false}, {api.Loc{Reg: -1, Kind: api.Bool, N: -1}, false},
		{api.Loc{Reg: -1, Kind: api.Int, N: math.MinInt64}, true}, {api.Loc{Reg: -1, Kind: api.Int, N: math.MaxInt64}, true}, {api.Loc{Reg: -1, Kind: api.Text}, false}, {api.Loc{Reg: -1, Kind: api.List, N: 1}, false}, {api.Loc{Reg: -1, Kind: api.Map}, false}, {api.Loc{Reg: -1, Kind: api.Func}, false}, {api.Loc{Reg: -1, Kind: api.Cell}, false}, {api.Loc{Reg: -1, Kind: api.Items}, false}, {api.Loc{Reg: -1, Kind: 255}, false},
		{api.Loc{Reg: -2}, false}, {api.Loc{Reg: -2, Kind: api.Int}, false},
	} {
		for k := range 3 {
			code := regs(3, "Return 0", "1: 0 1 2", "")
			code.Exits[0].Slots[k] = c.loc
			wantCheck(t, p, 0, code, c.may)
		}
	}
}

// P14.1: entries.
func TestEntries(t *testing.T) {
	p := api.Program{trials.Fn("Nil Pop Jump 4 Pop Nil Return", trials.Locals(2))}
	for entries, may := range map[string]bool{
		"": true, "0 at 0: 0 1": true, "0 at 1: 0 1": true, "0 at 2: 0 1": false, "0 at -1: 0 1": false, "1 at 0: 0 1 2": true, "1 at 0: 2 0 3": true, "5 at 1: 3 2 1": true, "3 at 0: 0 1": false, "6 at 0: 0 1": false, "-1 at 0: 0 1": false,
		"0 at 0:": false, "0 at 0: 0": false, "0 at 0: 0 1 2": false, "1 at 0: 0 1": false,
		"0 at 0: 0 0": false, "1 at 0: 0 1 0": false, "1 at 0: 1 0 0": false, "0 at 0: 0 4": false, "0 at 0: 4 0": false, "0 at 0: -1 0": false, "0 at 0: 3 2": true,
		"0 at 0: 0 1; 0 at 0: 0 1": false, "0 at 0: 0 1; 0 at 1: 2 3": false, "0 at 0: 0 1; 4 at 0: 0 1": true, "4 at 1: 0 1; 0 at 0: 0 1; 2 at 0: 1 0": true, "4 at 1: 0 1; 0 at 0: 0 1; 4 at 0: 1 0": false,
	} {
		wantCheck(t, p, 0, regs(4, "Value >0; Return 0", "", entries), may)
	}
}

// P14.1: code that may be, with something else in it than there was: what is answered is what the chapter says.
func TestSpoilt(t *testing.T) {
	t.Parallel()
	count := map[bool]int{}
	for seed := range 3000 {
		p, d := samples.Code(seed), samples.Dice(seed)
		codes := codesOf(t, &d, p, samples.Regs, all)
		for fn, c := range codes {
			wantCheck(t, p, fn, c, true)
			for range 4 {
				count[checked(t, p, fn, spoilt(&d, c))]++
			}
			// code of another function
			other := d.Below(len(p))
			count[checked(t, p, other, c)]++
		}
	}
	if count[true] < 2000 || count[false] < 10000 {
		t.Error(count)
	}
}

// copyOf: code in other memory.
func copyOf(c api.RegFn) api.RegFn {
	c.Code, c.Exits, c.Entries = slices.Clone(c.Code), slices.Clone(c.Exits), slices.Clone(c.Entries)
	for n := range c.Code {
		c.Code[n].Args = slices.Clone(c.Code[n].Args)
	}
	for n := range c.Exits {
		c.Exits[n].Slots = slices.Clone(c.Exits[n].Slots)
	}
	for n := range c.Entries {
		c.Entries[n].Slots = slices.Clone(c.Entries[n].Slots)
	}
	return c
}

// spoilt: code in which something is otherwise.
func spoilt(d *samples.Dice, c api.RegFn) api.RegFn {
	c = copyOf(c)
	n := d.Below(10) - 2
	i := &c.Code[d.Below(len(c.Code))]
	switch d.Below(14) {
	case 0:
		c.Regs = n
	case 1:
		i.Op = api.RegOp(d.Below(int(api.RPrint) + 2))
	case 2:
		i.To = n
	case 3:
		i.Args = append(i.Args, max(0, n))
	case 4:
		if len(i.Args) > 0 {
			i.Args[d.Below(len(i.Args))] = n
		}
	case 5:
		i.N = int64(n)
	case 6:
		i.Kind = api.Kind(d.Below(10))
	case 7:
		i.Exit = n
	case 8:
		c.Code = c.Code[:d.Below(len(c.Code))]
	case 9:
		c.Entries = append(c.Entries, api.Entry{Pc: n, At: d.Below(len(c.Code) + 1), Slots: []int{0, 1, 2, 3, 4}[:d.Below(6)]})
	case 10:
		if len(i.Args) > 0 {
			i.Args = i.Args[1:]
		}
	default:
		if len(c.Exits) > 0 {
			spoilExit(d, &c.Exits[d.Below(len(c.Exits))], n)
		}
	}
	return c
}

func spoilExit(d *samples.Dice, x *api.Exit, n int) {
	switch k := d.Below(5); {
	case k == 0:
		x.Pc = n
	case k == 1:
		x.Slots = append(x.Slots, api.Loc{})
	case len(x.Slots) == 0:
	case k == 2:
		x.Slots = x.Slots[1:]
	case k == 3:
		x.Slots[d.Below(len(x.Slots))].Reg = n
	default:
		x.Slots[d.Below(len(x.Slots))] = api.Loc{Reg: d.Below(3) - 1, Kind: api.Kind(d.Below(4)), N: int64(n)}
	}
}
