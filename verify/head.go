package verify

import "gearbox/api"

// mainMayBe: what is asked of the main function's head beside what is asked of all.
func mainMayBe(f *api.Fn) bool { return f.Params == 0 && len(f.Caps) == 0 }

func headMayBe(f *api.Fn) bool {
	return len(f.Name) <= api.MaxText &&
		f.Params >= 0 && f.Params <= f.Locals && f.Locals <= api.MaxLocals &&
		len(f.Caps) <= api.MaxParts &&
		len(f.Consts) <= api.MaxCode && all(f.Consts, constMayBe) &&
		len(f.Code) >= 1 && len(f.Code) <= api.MaxCode &&
		len(f.Lines) == len(f.Code) && all(f.Lines, lineMayBe) &&
		len(f.Handlers) <= api.MaxCode &&
		all(f.Handlers, func(h api.Handler) bool { return handlerMayBe(h, len(f.Code)) })
}

func all[T any](l []T, mayBe func(T) bool) bool {
	for _, x := range l {
		if !mayBe(x) {
			return false
		}
	}
	return true
}

func constMayBe(c api.Const) bool {
	switch c.Kind {
	case api.Int:
		return c.S == ""
	case api.Text:
		return c.N == 0 && len(c.S) <= api.MaxText
	}
	return false
}

func lineMayBe(line int) bool { return line >= 0 }

func handlerMayBe(h api.Handler, places int) bool {
	return h.From >= 0 && h.From < h.To && h.To <= h.At && h.At < places && h.Deep >= 0 && h.Deep < api.MaxStack
}
