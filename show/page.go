package show

import (
	"strconv"
	"strings"

	"gearbox/api"
)

// deepest is how many others a list or a map may be within, to be shown.
const deepest = 8

// page is the text of a value, as far as it is put together. Its calls answer false as soon as there is more than a text may have: lists within lists may come to far more than anybody could wait for.
type page struct {
	strings.Builder
	store api.Store
}

// put: a text behind what there is.
func (p *page) put(s string) bool {
	if len(s) > api.MaxText-p.Len() {
		return false
	}
	p.WriteString(s)
	return true
}

// value: one that is within so many others.
func (p *page) value(v api.Val, within int) bool {
	switch v.Kind {
	case api.Nil:
		return p.put("nil")
	case api.Bool:
		return p.put(yesOrNo(v.N))
	case api.Int:
		return p.put(strconv.FormatInt(v.N, 10))
	}
	o, _ := lead(p.store, v)
	switch o.Kind {
	case api.Text:
		return p.put(o.S)
	case api.List, api.Map:
		return p.row(o, within)
	case api.Func:
		return p.put("fn " + strconv.Itoa(o.Fn))
	}
	return p.put("?")
}

func yesOrNo(n int64) string {
	if n == 1 {
		return "yes"
	}
	return "no"
}

// row: a List or a Map that is within so many others.
func (p *page) row(o api.Obj, within int) bool {
	switch {
	case within > deepest:
		return p.put("..")
	case o.Kind == api.List:
		return p.put("[") && p.items(o.L, within+1) && p.put("]")
	}
	return p.put("{") && p.pairs(o.L, within+1) && p.put("}")
}

func (p *page) items(l []api.Val, within int) bool {
	for i, v := range l {
		if i > 0 && !p.put(", ") || !p.value(v, within) {
			return false
		}
	}
	return true
}

func (p *page) pairs(l []api.Val, within int) bool {
	for i := 0; i < len(l); i += 2 {
		var x api.Val // nil behind a last key without a value
		if i+1 < len(l) {
			x = l[i+1]
		}
		if i > 0 && !p.put(", ") || !p.value(l[i], within) || !p.put(": ") || !p.value(x, within) {
			return false
		}
	}
	return true
}
