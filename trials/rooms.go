package trials

import (
	"strings"

	"gearbox/api"
)

// asking is instructions, the last of which asks for words: how many words the roots have ahead of it, and how many it asks for. The local 0 is a cell (3 words) of 7, the local 1 is nil.
type asking struct {
	code        string
	roots, asks int
}

// makings: what is asked for is made.
func makings() []asking {
	return []asking{
		{"Const 4", 3, 2},
		{"Const 1", 3, 3},
		{"Const 5", 3, 3},
		{"Const 6", 3, 4},
		{"Const 1 Const 6", 6, 4},
		{"Cell 1", 3, 3},
		{"List", 3, 3},
		{"Nil Const 0 List 2", 3, 8},
		{"Nil Const 1 List 2", 6, 8},
		{"Map", 3, 3},
		{"Nil Nil Map 1", 3, 8},
		{"Nil Nil Nil Nil Map 2", 3, 12},
		{"Fn 1", 3, 2},
		{"Fn 2", 3, 6},
		{"Fn 1 Fn 2", 5, 6},
		{"Const 0 Show", 3, 3},
		{"Nil Nil List 2 Show", 11, 4},
		{"Const 1 Const 4 Bin 1", 8, 3},
		{"Const 5 Const 1 Bin 1", 9, 4},
		{"Const 1 Const 0 Const 0 Bin 2 Get", 6, 3},
		{"List Const 0 Const 0 Bin 2 Nil Put", 6, 9},
		{"Nil List 1 Const 0 Const 0 Bin 4 Const 1 Put", 12, 9},
		{"Map Nil Nil Put", 6, 17},
		{"Nil Nil Map 1 Const 0 Nil Put", 11, 17},
	}
}

// throwings: it is a text that is thrown.
func throwings() []asking {
	return []asking{
		{"Const 4 Neg", 5, 3},
		{"Nil Not", 3, 3},
		{"Nil Neg", 3, 3},
		{"Nil Len", 3, 3},
		{"Nil Nil Bin 1", 3, 3},
		{"Const 0 Const 0 Const 0 Bin 2 Bin 4", 3, 3},
		{"Const 7 Dup Bin 1", 3 + 514, 3},
		{"Const 7 List 1 Show", 3 + 514 + 6, 3},
		{"Const 7 List 1 Print Nil", 3 + 514 + 6, 3},
		{"Load 0 Show", 3, 3},
		{"Load 0 Print Nil", 3, 3},
		{"Load 0 Throw", 3, 3},
		{"Load 0 List 1", 3, 3},
		{"Load 0 Nil Map 1", 3, 3},
		{"Nil Nil Get", 3, 3},
		{"List Const 0 Get", 6, 3},
		{"Const 1 Const 0 Get", 6, 3},
		{"Nil Nil Nil Put Nil", 3, 3},
		{"List Const 0 Nil Put Nil", 6, 3},
		{"Nil Unless 99", 3, 3},
		{"CellLoad 1", 3, 3},
		{"Nil CellStore 1 Nil", 3, 3},
		{"Load 0 CellStore 0 Nil", 3, 3},
		{"Load 0 Store 1 Cell 1 Nil", 3, 3},
		{"Yes CellStore 0 Fn 3 Nil", 3, 3},
		{"Nil Call", 3, 3},
		{"Const 1 Fn 1 Nil Call 1", 8, 3},
	}
}

// program: these instructions; yes is printed behind them.
func (a asking) program() api.Program {
	f := Fn("Const 0 Store 0 Cell 0 "+a.code, Locals(2), Consts(7, "ab", 3, "b", "", "12345678", "123456789", strings.Repeat("x", api.MaxText)))
	at := len(f.Code) // of what is done behind
	for i := range f.Code {
		if f.Code[i].A == 99 {
			f.Code[i].A = at
		}
	}
	f.Code = append(f.Code, Fn("Yes Print Nil Return Fn 2 Fn 3 Return").Code...)
	f.Lines = make([]int, len(f.Code))
	return api.Program{
		f,
		Fn("Nil Return"),
		Fn("Nil Return", Caps(api.Cap{N: 0}, api.Cap{N: 0})),
		Fn("Nil Return", Caps(api.Cap{N: 1})),
	}
}

// rooms: at each instruction that asks for words: room that is just enough, and one word too little.
func (b *book) rooms() {
	b.name = "room that is asked for"
	yes := []string{"yes"}
	for _, a := range makings() {
		b.add(Trial{Program: a.program(), Room: a.roots + a.asks, Fuel: 9, Want: api.Outcome{End: api.EndDone, Out: yes, Fuel: 9}})
	}
	for _, a := range throwings() {
		t := Trial{Program: a.program(), Room: a.roots + a.asks, Fuel: 9, Want: api.Outcome{End: api.EndThrown, Value: a.says(), Words: 3}, FuelOpen: true}
		b.add(t)
	}
	for _, a := range append(makings(), throwings()...) {
		b.add(Trial{Program: a.program(), Room: a.roots + a.asks - 1, Fuel: 9, Want: api.Outcome{End: api.EndRoom, Words: a.roots}, FuelOpen: true})
	}
}

// says: what is thrown.
func (a asking) says() string {
	switch {
	case strings.HasSuffix(a.code, "Bin 4"):
		return "zero"
	case strings.HasPrefix(a.code, "Const 7"):
		return "great"
	case strings.HasSuffix(a.code, "Const 0 Get") || strings.HasPrefix(a.code, "List Const 0"):
		return "bounds"
	case strings.HasSuffix(a.code, "Call 1"):
		return "args"
	}
	return "kind"
}
