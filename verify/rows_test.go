package verify_test

import (
	"math"
	"strconv"
	"testing"

	"gearbox/api"
	"gearbox/verify"
)

// rooms is a program whose main function makes one that has 3 constants, 5 locals and 2 caps; its code is told.
func rooms(code string) api.Program {
	p := api.Program{fn("Fn 1 Return", locals(2)), fn(code, locals(5), caps(api.Cap{N: 0}, api.Cap{N: 1})), fn("Nil Return"), fn("Nil Return")}
	p[1].Consts = []api.Const{{Kind: api.Int}, {Kind: api.Int, N: 1}, {Kind: api.Text}}
	return p
}

// P9.1: what an instruction's number may be; it stands at place 2, is never come to, and 3 places are behind it.
func TestNumbers(t *testing.T) {
	for _, row := range []struct {
		words []string
		span
	}{
		{[]string{"Const"}, span{0, 2}},
		{[]string{"Load", "CellLoad", "Store", "CellStore", "Cell"}, span{0, 4}},
		{[]string{"Up", "UpStore"}, span{0, 1}},
		{[]string{"Bin"}, span{int(api.Add), int(api.Unlike)}},
		{[]string{"Jump", "Unless"}, span{3, 5}},
		{[]string{"Loop"}, span{0, 2}},
		{[]string{"List", "Map", "Call"}, span{0, api.MaxStack}},
		{[]string{"Fn"}, span{1, 3}},
		{[]string{"Nil", "Yes", "No", "Pop", "Print", "Dup", "Not", "Neg", "Len", "Show", "Get", "Put", "Return", "Throw"}, span{0, 0}},
	} {
		for _, word := range row.words {
			for _, n := range []int{row.least - 1, row.least, row.least + 1, row.most - 1, row.most, row.most + 1, row.most + 2, -1, 0, 1, 255, 256, 257, 512, 1 << 32, -1 << 32, math.MaxInt, math.MinInt} {
				p := rooms("Nil Return " + word + " " + strconv.Itoa(n) + " Nil Nil Return")
				if word == "Fn" && n == 1 { // it is made by the main function already
					wantFault(t, p, 1, 2)
				} else if row.has(n) {
					wantRight(t, p)
				} else {
					wantFault(t, p, 1, 2)
				}
			}
		}
	}
}

// P9.1: instructions of no Op of the table.
func TestOps(t *testing.T) {
	for op := range 256 {
		if op >= 1 && op < len(words) {
			continue
		}
		for pc := range 3 {
			p := only("Nil Pop Nil Return")
			p[0].Code[pc].Op = api.Op(op)
			wantFault(t, p, 0, pc)
			p = only("Nil Return Nil Nil Nil Return")
			p[0].Code[2+pc].Op = api.Op(op)
			wantFault(t, p, 0, 2+pc)
		}
		p := only("Nil Return")
		p[0].Code[1].Op = api.Op(op)
		wantFault(t, p, 0, 1)
	}
}

// P9.1, P9.2: what an instruction takes and leaves: it may be where the stack is just so deep, but not where it is less deep, nor where it would be too deep behind it.
func TestTakesLeaves(t *testing.T) {
	for _, row := range []struct {
		ins           string
		takes, leaves int
	}{
		{"Const 1", 0, 1}, {"Nil", 0, 1}, {"Yes", 0, 1}, {"No", 0, 1}, {"Load 4", 0, 1}, {"CellLoad 3", 0, 1}, {"Store 4", 1, 0}, {"CellStore 3", 1, 0}, {"Cell 2", 0, 0}, {"Up 1", 0, 1}, {"UpStore 1", 1, 0},
		{"Pop", 1, 0}, {"Print", 1, 0}, {"Dup", 1, 2}, {"Bin 1", 2, 1}, {"Bin 5", 2, 1}, {"Bin 9", 2, 1}, {"Not", 1, 1}, {"Neg", 1, 1}, {"Len", 1, 1}, {"Show", 1, 1}, {"Get", 2, 1}, {"Put", 3, 0}, {"Fn 2", 0, 1},
		{"List 0", 0, 1}, {"List 1", 1, 1}, {"List 2", 2, 1}, {"List 255", 255, 1}, {"List 256", 256, 1}, {"Map 0", 0, 1}, {"Map 1", 2, 1}, {"Map 2", 4, 1}, {"Map 127", 254, 1}, {"Map 128", 256, 1}, {"Call 0", 1, 1}, {"Call 1", 2, 1}, {"Call 7", 8, 1}, {"Call 254", 255, 1}, {"Call 255", 256, 1},
	} {
		for deep := range api.MaxStack + 1 {
			p := rooms(many("Nil", deep) + row.ins + " Jump " + strconv.Itoa(deep+2) + " Loop")
			after := deep - row.takes + row.leaves
			switch {
			case deep < row.takes || after > api.MaxStack:
				wantFault(t, p, 1, deep)
			case after != 0:
				wantFault(t, p, 1, deep+2)
			default:
				wantRight(t, p)
			}
			p = rooms(many("Nil", deep) + row.ins + " Nil Return")
			if deep >= row.takes && after < api.MaxStack {
				wantRight(t, p)
				l, e := verify.Depths(p, 1)
				if e != api.OK || l[deep] != deep || l[deep+1] != after || l[deep+2] != after+1 {
					t.Errorf("%s, %d deep: %v, %d", row.ins, deep, l, e)
				}
			}
		}
	}
	for _, code := range []string{"Map 129", "Map 200", "Map 256", "Call 256"} { // there is never so much on a stack
		wantFault(t, only(many("Nil", api.MaxStack)+code+" Return"), 0, api.MaxStack)
	}
	for _, end := range []string{"Return", "Throw"} {
		wantFault(t, only(end), 0, 0)
		wantRight(t, only("Nil "+end), 0, 1)
		wantRight(t, only("Nil Nil "+end), 0, 1, 2)
		wantRight(t, only(many("Nil", api.MaxStack)+end))
	}
}

// P9.1: no stack is deeper than MaxStack.
func TestDeepest(t *testing.T) {
	wantRight(t, only(many("Nil", 256)+"Return"))
	wantFault(t, only(many("Nil", 257)+"Return"), 0, 256)
	wantFault(t, only(many("Nil", 400)+"Return"), 0, 256)
	wantRight(t, only("Nil "+many("Dup", 255)+"Return"))
	wantFault(t, only("Nil "+many("Dup", 256)+"Return"), 0, 256)
	wantFault(t, only(many("Nil", 256)+"List 0 Return"), 0, 256)
	wantRight(t, only(many("Nil", 256)+"Call 0 Not Bin 1 Return"))
	wantRight(t, only(many("Nil", 256)+"Unless 259 Return Nil Return"))
}

// P9.1, P9.2: which places are next to one.
func TestNext(t *testing.T) {
	wantRight(t, only("Jump 3 Nil Return Nil Nil Return"), 0, -1, -1, 0, 1, 2)
	wantRight(t, only("Nil Unless 4 Nil Return Yes Return"), 0, 1, 0, 1, 0, 1)
	wantRight(t, only("Nil Unless 2 Nil Return"), 0, 1, 0, 1)
	wantRight(t, only("Nil Nil Unless 3 Return"), 0, 1, 2, 1)
	wantRight(t, only("Jump 1 Jump 2 Nil Return"), 0, 0, 0, 1)
	wantRight(t, only("Loop"), 0)
	wantRight(t, only("Loop Nil Return"), 0, -1, -1)
	wantRight(t, only("Nil Pop Loop 2"), 0, 1, 0)
	wantRight(t, only("Nil Return Return"), 0, 1, -1)
	wantRight(t, only("Nil Throw Put Nil Return"), 0, 1, -1, -1, -1)
	wantRight(t, only("Nil Pop Loop 0 Put Put Loop 5"), 0, 1, 0, -1, -1, -1)
	// A loop to what was not come to yet; what is come to so is taken ahead of what waits further on.
	wantRight(t, only("Jump 3 Nil Return Loop 1"), 0, 0, 1, 0)
	wantRight(t, only("Jump 4 Nil Pop Jump 5 Loop 1 Nil Return"), 0, 0, 1, 0, 0, 0, 1)
	wantFault(t, only("Jump 4 Pop Nil Return Loop 1"), 0, 1)
	wantFault(t, only("Yes Unless 6 Jump 8 Nil Not Return Loop 5 Nil Pop Pop Nil Return"), 0, 5)
	wantFault(t, only("Yes Unless 7 Jump 9 Nil Not Return Nil Loop 3 Nil Pop Pop Nil Return"), 0, 9)
	wantFault(t, only("Yes Unless 6 Jump 7 Pop Nil Return Loop 3 Pop Nil Return"), 0, 3)
}

// P9.1: a place that was told another number ahead, by each way of coming to it.
func TestToldAnother(t *testing.T) {
	wantFault(t, only("Nil Nil Unless 4 Pop Nil Return"), 0, 3)
	wantFault(t, only("Nil Unless 3 Nil Nil Return"), 0, 2)
	wantFault(t, only("Nil Nil Unless 4 Jump 5 Pop Return"), 0, 4)
	wantFault(t, only("Nil Nil Unless 5 Nil Jump 5 Return"), 0, 4)
	wantFault(t, only("Nil Dup Unless 4 Pop Jump 6 Nil Return"), 0, 3)
	wantRight(t, only("Nil Dup Unless 5 Pop Nil Return"), 0, 1, 2, 1, 0, 1)
	wantRight(t, only("Nil Nil Unless 5 Pop Nil Return"), 0, 1, 2, 1, 0, 1)
	wantRight(t, only("Nil Nil Nil Unless 4 Pop Return"), 0, 1, 2, 3, 2, 1)
	// Loops are at places where the stack is empty, but what they go back to need not be one that was told so.
	wantFault(t, only("Nil Pop Loop 1"), 0, 2)
	wantRight(t, only("Nil Pop Loop 0"), 0, 1, 0)
	wantFault(t, only("Nil Pop Nil Pop Loop 3"), 0, 4)
}
