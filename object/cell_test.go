package object_test

import (
	"math"
	"slices"
	"testing"

	"gearbox/api"
	"gearbox/heap"
	"gearbox/object"
)

func wantFn(t *testing.T, h *heap.Heap, v api.Val, fn int, cells ...api.Val) {
	t.Helper()
	if n, l, e := object.Fn(h, v); n != fn || !slices.Equal(l, cells) || e != api.OK {
		t.Errorf("Fn(%v) = %d, %s, %d, want %d, %s", v, n, brief(l), e, fn, brief(cells))
	}
}

// P3.6: a cell in a heap that has just its words, and in one that has one less
func TestCell(t *testing.T) {
	h, _ := heap.New(3)
	v, e := object.NewCell(h, num(-7))
	wantVal(t, "NewCell", v, e, cell(0), api.OK)
	minus7 := int64(-7)
	wantHeap(t, h, obj{api.Cell, []uint64{w(api.Int), uint64(minus7)}})
	v, e = object.Cell(h, cell(0))
	wantVal(t, "Cell", v, e, num(-7), api.OK)
	wantErr(t, "SetCell", object.SetCell(h, cell(0), truth(1)), api.OK)
	wantHeap(t, h, obj{api.Cell, []uint64{w(api.Bool), 1}})
	wantErr(t, "SetCell", object.SetCell(h, cell(0), none), api.OK)
	wantHeap(t, h, obj{api.Cell, []uint64{0, 0}})
	v, e = object.Cell(h, cell(0))
	wantVal(t, "Cell", v, e, none, api.OK)
	for _, words := range []int{1, 2} {
		h, _ = heap.New(words)
		v, e = object.NewCell(h, num(1))
		wantVal(t, "NewCell", v, e, none, api.ErrFull)
		v, e = object.NewCell(h, truth(2))
		wantVal(t, "NewCell", v, e, none, api.ErrArg)
		wantUsed(t, h, 0)
	}
}

// P3.6: what a cell has is told as it is held
func TestCellRaw(t *testing.T) {
	for _, c := range []struct {
		kind, n uint64
		want    api.Val
	}{
		{0, 5, api.Val{N: 5}}, {1, 9, truth(9)}, {2, math.MaxUint64, num(-1)}, {3, 77, text(77)}, {7, 0, cell(0)}, {8, 1, items(1)}, {255, 1 << 63, api.Val{Kind: 255, N: math.MinInt64}},
		{256, 5, none}, {256 + 2, 5, none}, {1 << 32, 1, none}, {math.MaxUint64, 1, none},
	} {
		h := lay(t, 10, obj{api.Cell, []uint64{c.kind, c.n}}, obj{api.Func, []uint64{4, c.kind, c.n}})
		stays(t, h, func() {
			v, e := object.Cell(h, cell(0))
			wantVal(t, "Cell", v, e, c.want, api.OK)
			wantFn(t, h, fn(3), 4, c.want)
		})
	}
}

// P3.6: functions over some cells, in a heap that has just their words, and in one that has one less
func TestFn(t *testing.T) {
	for _, n := range []int{0, 1, 2, 5} {
		words := 3*n + 2 + 2*n
		for _, less := range []int{0, 1} {
			h, _ := heap.New(words - less)
			var cells []api.Val
			for i := range n {
				cells = append(cells, must(t)(object.NewCell(h, num(int64(i)))))
			}
			if less == 1 {
				stays(t, h, func() {
					v, e := object.NewFn(h, 7, cells)
					wantVal(t, "NewFn", v, e, none, api.ErrFull)
				})
				continue
			}
			v, e := object.NewFn(h, 7, cells)
			wantVal(t, "NewFn", v, e, fn(int64(3*n)), api.OK)
			wantUsed(t, h, words)
			wantFn(t, h, v, 7, cells...)
		}
	}
}

// P3.6: which numbers of functions may be
func TestFnNumbers(t *testing.T) {
	h, _ := heap.New(100)
	for _, n := range []int{0, 1, api.MaxFns, 1<<62 - 1, 1 << 62} {
		wantFn(t, h, must(t)(object.NewFn(h, n, nil)), n)
	}
	stays(t, h, func() {
		for _, n := range []int{-1, math.MinInt, 1<<62 + 1, math.MaxInt} {
			v, e := object.NewFn(h, n, nil)
			wantVal(t, "NewFn", v, e, none, api.ErrArg)
		}
	})
}

// P3.6: a function's values are cells alone
func TestFnCells(t *testing.T) {
	h := example(t)
	c := must(t)(object.NewCell(h, none))
	wrong := vals(none, truth(1), num(24), text(0), list(4), table(12), items(7), cell(0), cell(4), cell(23), cell(25), cell(27), cell(-1), cell(math.MaxInt64), api.Val{Kind: 200, N: 24})
	stays(t, h, func() {
		for _, x := range wrong {
			for _, l := range [][]api.Val{{x}, {c, x}, {x, c}} {
				v, e := object.NewFn(h, 0, l)
				wantVal(t, "NewFn", v, e, none, api.ErrArg)
			}
		}
	})
	f := must(t)(object.NewFn(h, 0, vals(c, c)))
	wantFn(t, h, f, 0, c, c)
	v, e := object.NewFn(h, 0, vals(f))
	wantVal(t, "NewFn", v, e, none, api.ErrArg)
}

// P3.6: as many cells as may be, and one more
func TestMostCells(t *testing.T) {
	h, _ := heap.New(api.MaxWords)
	c := must(t)(object.NewCell(h, none))
	cells := slices.Repeat(vals(c), api.MaxItems+1)
	stays(t, h, func() {
		v, e := object.NewFn(h, 0, cells)
		wantVal(t, "NewFn", v, e, none, api.ErrLimit)
		v, e = object.NewFn(h, -1, cells)
		wantVal(t, "NewFn", v, e, none, api.ErrArg)
		v, e = object.NewFn(h, 0, append(cells[:api.MaxItems:api.MaxItems], num(1)))
		wantVal(t, "NewFn", v, e, none, api.ErrArg)
		small, _ := heap.New(3)
		small.Alloc(api.Cell, 2)
		v, e = object.NewFn(small, 0, cells)
		wantVal(t, "NewFn", v, e, none, api.ErrLimit)
	})
	v := must(t)(object.NewFn(h, 5, cells[:api.MaxItems]))
	wantFn(t, h, v, 5, cells[:api.MaxItems]...)
	wantUsed(t, h, 3+2+2*api.MaxItems)
}
