package trials

import (
	"slices"
	"strings"

	"gearbox/api"
)

// Wrong: programs that may not be.
func Wrong() []api.Program {
	return []api.Program{
		nil, {},
		{{}},
		{Fn("Nil")},
		{Fn("Nil Return", Params(1))},
		{Fn("Pop Nil Return")},
		{Fn("Load Return")},
		{Fn("Const Return")},
		{Fn("Jump 0 Nil Return")},
		{Fn("Nil Loop")},
		{Fn("Nil Return"), Fn("Nil")},
		{Fn("Nil Return"), Fn("Up Return", Caps(api.Cap{}))},
		{Fn("Nil Return", Locals(api.MaxLocals+1))},
		{Fn(strings.Repeat("Nil ", api.MaxStack+1) + "Return")},
		{Fn("None Nil Return")},
		{{Code: []api.Ins{{Op: 31}, {Op: api.OpLoop}}, Lines: make([]int, 2)}},
		{{Code: []api.Ins{{Op: 255}, {Op: api.OpLoop}}, Lines: make([]int, 2)}},
		{{Code: []api.Ins{{Op: api.OpLoop}}}},
		slices.Repeat(api.Program{Fn("Nil Return")}, api.MaxFns+1),
	}
}
