package trials

import "gearbox/api"

// ends: what takes room, what does not any more, and what Words tells at each of the four ends.
func (b *book) ends() {
	b.gone()
	b.words()
}

// just: a program that is done with so much room, and ends for want of it with a word less.
func (b *book) just(room int, text string, out ...string) {
	p := of(text)
	b.add(Trial{Program: p, Room: room, Fuel: Plenty, Want: api.Outcome{End: api.EndDone, Out: out}, FuelOpen: true})
	b.add(Trial{Program: p, Room: room - 1, Fuel: Plenty, Want: api.Outcome{End: api.EndRoom}, FuelOpen: true, WordsOpen: true, OutOpen: true})
}

// gone: what can't be reached any more takes no room.
func (b *book) gone() {
	b.name = "lists and texts that nobody keeps"
	b.just(3, `"a"; "b"; "c";`)
	b.just(9, `var i = 0; while i < 500 { i = i + 1; "a" + "b"; } print i;`, "500")
	b.just(6, `var a = "x"; var i = 0; while i < 500 { a = "y"; i = i + 1; } print a;`, "y")
	b.just(16, `var a = []; a = [a]; a = [a]; a[0] = a; a = nil; a = [1, 2, 3, 4, 5, 6]; print #a;`, "6") // what leads to itself
	b.just(8+10, `var l = [0]; l = [1, 2]; l = [1, 2, 3]; print #l;`, "3")
	b.just(3+3+6+8, `var i = 0; while i < 100 { [[], [[]]]; i = i + 1; } [[], []];`)
	b.just(3, `var i = 0; while i < 100 { try { 1 / 0; } catch e { e = nil; } i = i + 1; }`)
	b.just(6, `var i = 0; while i < 100 { try { 1 / 0; } catch e { } i = i + 1; }`) // the local of e
	b.name = "lists that grow"
	b.just(3+9, `var l = []; l[0] = 1; l[1] = 1; l[2] = 1; l[3] = 1; print l;`, "[1, 1, 1, 1]")
	b.just(3+9+17, `var l = []; l[0] = 1; l[1] = 1; l[2] = 1; l[3] = 1; l[4] = 1; print l;`, "[1, 1, 1, 1, 1]")
	b.just(3+17+33, `var m = {}; var i = 0; while i < 5 { m[i] = i; i = i + 1; } print m;`, "{0: 0, 1: 1, 2: 2, 3: 3, 4: 4}")
	b.name = "lists that are kept while much is thrown away beside"
	b.just(8+10+3+3, `var l = [1, 2]; var m = [l, "kept", l]; var i = 0; while i < 300 { i = i + 1; "gone"; } print m;`, "[[1, 2], kept, [1, 2]]")
	b.just(12+4*3+3, `var l = []; var i = 0; while i < 200 { l[i % 4] = $i; i = i + 1; } print l;`, "[196, 197, 198, 199]")
	b.just(3+4+3*8+9, `var l = nil; var f = fn(n) { l = [n, l]; "a" + "b"; if 1 < n { l[1] = nil; } return l; }; var i = 0; while i < 50 { f(i); i = i + 1; } print l;`, "[49, nil]")
	b.name = "what frames hold"
	b.just(2+3, `var f = fn() { return 1; }; f = nil; fn() { return "a"; }();`) // a frame's Func is a root
	b.just(2+3+3, `fn(x) { "b"; }("a");`)                                       // what a call took is the callee's alone
	b.just(2+3, `fn(x) { x = nil; "b"; }("a");`)
}

// words: at each of the four ends.
func (b *book) words() {
	b.name = "words at the end"
	b.want(of(`var a = [1, 2]; var b = "a";`), 100, 5, api.Outcome{End: api.EndDone, Fuel: 5})
	b.want(of(`var a = [1, 2]; throw "a";`), 100, 5, api.Outcome{End: api.EndThrown, Value: "a", Fuel: 5, Words: 3})
	b.want(of(`var a = [1, "b"]; throw [a, a];`), 100, 5, api.Outcome{End: api.EndThrown, Value: "[[1, b], [1, b]]", Fuel: 5, Words: 8 + 8 + 3})
	b.want(of(`var a = [1, 2]; throw 5;`), 100, 5, api.Outcome{End: api.EndThrown, Value: "5", Fuel: 5})
	b.want(of(`var a = [1, 2]; a[nil];`), 100, 5, api.Outcome{End: api.EndThrown, Value: "kind", Fuel: 5, Words: 3})
	b.want(of(`var a = [1, 2]; var b = a; "gone"; while yes { }`), 100, 5, api.Outcome{End: api.EndFuel, Words: 8})
	// ahead of the call: what is called, and its values; the frames ahead, without what their calls took
	b.want(of(`var f = fn(x, y) { x = nil; nil("b", "c"); }; [f("a", [1]), 1];`), 100, 1, api.Outcome{End: api.EndFuel, Words: 2 + 6 + 3 + 3})
	b.want(of(`var a = "x"; var b = [1, 2, 3];`), 12, 5, api.Outcome{End: api.EndRoom, Fuel: 5, Words: 3})
	b.want(of(`var a = "x"; var b = [1, 2, 3];`), 13, 5, api.Outcome{End: api.EndDone, Fuel: 5})
	b.want(of(`print 1; var f = fn() { print 2; return ["a", "b"]; }; f(); print 3;`), 2+6+8-1, 5, api.Outcome{End: api.EndRoom, Out: []string{"1", "2"}, Fuel: 4, Words: 8})
}
