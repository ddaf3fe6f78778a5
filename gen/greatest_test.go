package gen

import (
	"testing"

	"gearbox/api"
)

// P8.1: no tree has more than MaxCode instructions in a function, so this asks what would be answered, if one had.
func TestCodeLimit(t *testing.T) {
	var w writer
	for range api.MaxCode {
		w.put(0, api.OpCell, 0)
	}
	if w.isTooGreat() {
		t.Error("a function may have MaxCode instructions")
	}
	w.put(0, api.OpCell, 0)
	if !w.isTooGreat() {
		t.Error("a function may not have more than MaxCode instructions")
	}
}

// P8.1: and where a function is too great, there is no code, whichever it is.
func TestTooGreat(t *testing.T) {
	list := api.Expr{Kind: api.ExList, Args: make([]api.Expr, api.MaxStack+1)}
	fn := func(l ...api.Stmt) api.Expr { return api.Expr{Kind: api.ExFn, Body: l} }
	do := func(x api.Expr) api.Stmt { return api.Stmt{Kind: api.StDo, Args: []api.Expr{x}} }
	for _, l := range [][]api.Stmt{{do(list)}, {do(fn(do(list)))}, {do(fn(do(list))), do(fn())}, {do(fn()), do(fn(do(list), do(fn())))}} {
		if p, e := Code(l); p != nil || e != api.ErrLimit {
			t.Errorf("%v, %d", p, e)
		}
	}
}
