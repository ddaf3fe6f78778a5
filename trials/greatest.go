package trials

import (
	"strconv"
	"strings"

	"gearbox/api"
)

// greatest: what is as great as may be.
func (b *book) greatest() {
	b.texts()
	b.code()
}

// texts: as long as may be, and one byte more.
func (b *book) texts() {
	b.name = "MaxText"
	text := strings.Repeat("0123456789abcdef", api.MaxText/16)
	half := text[:api.MaxText/2]
	p := of(`var a = "` + half + `"; print a + a; try { print a + a + "x"; } catch e { print e; } try { print [a + a]; } catch e { print e; } try { print $[a + a]; } catch e { print e; } throw [a + a];`)
	b.want(p, Plenty, 0, api.Outcome{End: api.EndThrown, Value: "great", Out: []string{text, "great", "great", "great"}, Words: 6 + 2 + 512})
	f := Fn("Const List 1 Print Nil Jump 5 Print Const Print Nil Return", Consts(text), Handlers(0, 4, 5, 0))
	b.out(api.Program{f}, "great", text)
	f = Fn("Const List 1 Show Jump 4 Print Const Show Print Nil Return", Consts(text), Handlers(0, 3, 4, 0))
	b.out(api.Program{f}, "great", text)
}

// code: a stack as deep as may be, as many locals, caps, handlers and instructions.
func (b *book) code() {
	b.name = "greatest code"
	b.out(api.Program{Fn(strings.Repeat("Yes ", api.MaxStack) + "List " + strconv.Itoa(api.MaxStack) + " Len Print Nil Return")}, "256")
	b.out(api.Program{Fn(strings.Repeat("Yes ", api.MaxStack) + "Map " + strconv.Itoa(api.MaxStack/2) + " Len Print Nil Return")}, "1")
	f := Fn(strings.Repeat("Nil Pop ", api.MaxCode/2-3) + "Nil Yes Throw Print Nil Return")
	at := len(f.Code) - 3
	for range api.MaxCode - 1 {
		f.Handlers = append(f.Handlers, api.Handler{From: 0, To: at - 1, At: at})
	}
	f.Handlers = append(f.Handlers, api.Handler{From: at - 1, To: at, At: at})
	b.out(api.Program{f}, "yes")
	many := make([]api.Cap, api.MaxParts)
	for i := range many {
		many[i].N = 63
	}
	p := api.Program{
		Fn("Yes Store 63 Cell 63 Fn 1 Call Print Nil Return", Locals(api.MaxLocals)),
		Fn("Up 4095 Return", Caps(many...)),
	}
	b.out(p, "yes")
	b.want(p, 3+2+2*api.MaxParts, 1, api.Outcome{End: api.EndDone, Out: []string{"yes"}})
	b.want(p, 3+2+2*api.MaxParts-1, 1, api.Outcome{End: api.EndRoom, Fuel: 1, Words: 3})
}
