// Package trials holds runs of programs with what they come to, written by hand from chapter 12: what every machine is tried with. It is no layer, and for tests alone.
package trials

import (
	"slices"

	"gearbox/api"
	"gearbox/gen"
)

// Plenty of room and fuel, where they are not what is asked for.
const Plenty = 10000

// Trial is a run, and what is known of how it ends.
type Trial struct {
	Name       string
	Program    api.Program
	Room, Fuel int
	Want       api.Outcome
	FuelOpen   bool // what is left is not told
	WordsOpen  bool // likewise
	OutOpen    bool
}

// Meets: is an outcome as it should be?
func (t Trial) Meets(o api.Outcome) bool {
	return o.End == t.Want.End && o.Value == t.Want.Value &&
		(t.OutOpen || slices.Equal(o.Out, t.Want.Out)) &&
		(t.FuelOpen || o.Fuel == t.Want.Fuel) &&
		(t.WordsOpen || o.Words == t.Want.Words)
}

// All of them.
func All() []Trial {
	b := &book{}
	b.operations()
	b.closures()
	b.thrown()
	b.calls()
	b.rooms()
	b.ends()
	b.greatest()
	return b.trials
}

// book is the trials that are written so far.
type book struct {
	name   string // of those that come next
	trials []Trial
}

// want: all of an outcome.
func (b *book) want(p api.Program, room, fuel int, o api.Outcome) {
	b.add(Trial{Program: p, Room: room, Fuel: fuel, Want: o})
}

func (b *book) add(t Trial) {
	t.Name = b.name
	b.trials = append(b.trials, t)
}

// out: a run that is done and prints these.
func (b *book) out(p api.Program, texts ...string) {
	b.add(Trial{Program: p, Room: Plenty, Fuel: Plenty, Want: api.Outcome{End: api.EndDone, Out: texts}, FuelOpen: true})
}

// throws: a run that prints these, and then throws.
func (b *book) throws(p api.Program, value string, texts ...string) {
	b.add(Trial{Program: p, Room: Plenty, Fuel: Plenty, Want: api.Outcome{End: api.EndThrown, Value: value, Out: texts}, FuelOpen: true, WordsOpen: true})
}

// of: the code of a text that has some.
func of(text string) api.Program {
	p, _, e := gen.Of(text)
	if e != api.OK {
		panic(text)
	}
	return p
}
