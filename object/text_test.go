package object_test

import (
	"math"
	"strings"
	"testing"

	"gearbox/api"
	"gearbox/heap"
	"gearbox/object"
)

// P3.1, P3.9: texts of each length about a word's, and of the greatest one; in a heap with just as many words as they take, and with one less
func TestTexts(t *testing.T) {
	for _, n := range []int{0, 1, 2, 7, 8, 9, 15, 16, 17, 64, 65, api.MaxText - 1, api.MaxText} {
		b := make([]byte, n)
		for i := range b {
			b[i] = byte(255 - i*7)
		}
		words := 2 + (n+7)/8
		h, _ := heap.New(words)
		v, e := object.NewText(h, string(b))
		wantVal(t, "NewText", v, e, text(0), api.OK)
		wantUsed(t, h, words)
		wantText(t, h, v, string(b))
		wantPlain(t, h, v, text(1), api.Obj{Kind: api.Text, S: string(b)})
		h, _ = heap.New(words - 1)
		stays(t, h, func() {
			v, e = object.NewText(h, string(b))
			wantVal(t, "NewText", v, e, none, api.ErrFull)
		})
	}
}

// P3.1: any bytes, zeros and what is no rune too
func TestTextBytes(t *testing.T) {
	h, _ := heap.New(1000)
	for _, s := range []string{"\x00", "\x00\x00\x00\x00\x00\x00\x00\x00\x00", "a\x00b", "\xff\xfe\x80", "Grüße, 世界", strings.Repeat("\xff", 17)} {
		wantText(t, h, must(t)(object.NewText(h, s)), s)
	}
}

// P3.1: a text that is too long is told ahead of a heap that is too small
func TestTextLimit(t *testing.T) {
	for _, words := range []int{1, 10000} {
		for _, n := range []int{api.MaxText + 1, api.MaxText + 8, 1 << 20} {
			h, _ := heap.New(words)
			v, e := object.NewText(h, strings.Repeat("x", n))
			wantVal(t, "NewText", v, e, none, api.ErrLimit)
			wantUsed(t, h, 0)
		}
	}
}

// P3.4: a byte of a text is a new text
func TestGetByte(t *testing.T) {
	h, _ := heap.New(100)
	v := must(t)(object.NewText(h, "abcdefghi\xff\x00"))
	used := h.Used()
	for i, want := range []string{"a", "b", "c", "d", "e", "f", "g", "h", "i", "\xff", "\x00"} {
		x, e := object.Get(h, v, num(int64(i)))
		wantVal(t, "Get", x, e, text(int64(used)), api.OK)
		wantText(t, h, x, want)
		used += 3
		wantUsed(t, h, used)
	}
	stays(t, h, func() {
		for _, n := range []int64{-1, 11, 12, 16, math.MinInt64, math.MaxInt64, 1 << 32} {
			wantGet(t, h, v, num(n), none, api.ErrArg)
		}
		for _, k := range vals(none, truth(0), truth(1), v, list(0), cell(0), items(1), api.Val{Kind: 200, N: 1}) {
			wantGet(t, h, v, k, none, api.ErrKind)
		}
	})
}

// P3.4: a byte of a text in a heap that has just the three words, and one less; of a text of no byte there is none
func TestGetByteRoom(t *testing.T) {
	for _, left := range []int{0, 1, 2, 3} {
		h, _ := heap.New(3 + left)
		v := must(t)(object.NewText(h, "ab"))
		wantGet(t, h, v, num(2), none, api.ErrArg)
		if left == 3 {
			wantGet(t, h, v, num(1), text(3), api.OK)
			wantText(t, h, text(3), "b")
			continue
		}
		stays(t, h, func() { wantGet(t, h, v, num(1), none, api.ErrFull) })
	}
	h, _ := heap.New(2)
	v := must(t)(object.NewText(h, ""))
	wantGet(t, h, v, num(0), none, api.ErrArg)
}

// P3.7: values that are the same, and that are not
func TestSame(t *testing.T) {
	abc := []uint64{3, 0x636261}
	h := lay(t, 200,
		obj{api.Text, abc}, // 0
		obj{api.Text, abc}, // 3
		obj{api.Text, []uint64{3, 0xaa00000000636261}},            // 6: what is left of the word does not matter
		obj{api.Text, []uint64{4, 0x636261}},                      // 9: a zero more
		obj{api.Text, []uint64{3, 0x626261}},                      // 12
		obj{api.Text, []uint64{3, 0x636261, 0}},                   // 15: may not be
		obj{api.Text, []uint64{0}},                                // 19
		obj{api.Text, []uint64{0}},                                // 21
		obj{api.Text, []uint64{9, 0x636261, 0x61}},                // 23
		obj{api.Text, []uint64{9, 0x636261, 0xff61}},              // 27
		obj{api.Text, []uint64{9, 0x636261, 0x62}},                // 31
		obj{api.Text, []uint64{8, 0x636261}},                      // 35
		obj{api.Text, []uint64{8, 0xff00000000636261}},            // 38
		obj{api.Text, []uint64{3, 0x636261, 0}},                   // 41: may not be
		obj{api.List, []uint64{0, 0}},                             // 45
		obj{api.List, []uint64{0, 0}},                             // 48
		obj{api.Cell, []uint64{0, 0}}, obj{api.Func, []uint64{0}}) // 51, 54
	groups := [][]api.Val{
		{none, {Kind: api.Nil, N: 5}, {Kind: api.Nil, N: -1}},
		{text(0), text(3), text(6)},
		{text(9)}, {text(12)}, {text(15)}, {text(41)},
		{text(19), text(21)},
		{text(23), text(27)},
		{text(31)}, {text(35)}, {text(38)},
		{text(1)}, {text(2)}, {text(45)}, {text(-1)}, {text(math.MaxInt64)},
		{truth(0)}, {truth(1)}, {truth(2)},
		{num(0)}, {num(1)}, {num(3)}, {num(-1)}, {num(math.MinInt64)},
		{list(45)}, {list(48)}, {list(0)}, {list(3)},
		{table(45)}, {cell(51)}, {cell(0)}, {fn(54)}, {fn(0)}, {items(0)}, {items(3)},
		{{Kind: 200}}, {{Kind: 200, N: 1}}, {{Kind: 255}},
	}
	stays(t, h, func() {
		for i, g := range groups {
			for j, f := range groups {
				for _, a := range g {
					for _, b := range f {
						if object.Same(h, a, b) != (i == j) {
							t.Errorf("Same(%v, %v) = %v", a, b, i != j)
						}
					}
				}
			}
		}
	})
}
