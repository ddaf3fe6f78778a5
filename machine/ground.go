package machine

import "gearbox/api"

// Ground is what the values of a run stand on: where its objects are, with room for so many words. Operations are those of chapter 11, on values that may be there.
//
// No operation collects, since values may have other places behind that: one for which there is no room is done again when the machine has collected, on the values as they are then.
type Ground interface {
	Text(t string) Did
	List(l []api.Val) Did
	Map(l []api.Val) Did
	Cell(v api.Val) Did
	Fn(fn int, cells []api.Val) Did

	Bin(op api.Bin, a, b api.Val) Did
	Len(a api.Val) Did
	Show(a api.Val) Did
	Get(v, k api.Val) Did
	Put(v, k, x api.Val) Did
	Load(cell api.Val) Did     // the value of a cell: kind, if it is none
	Store(cell, x api.Val) Did // a cell holds a value: likewise

	// Told: a value's text, or what is thrown for it.
	Told(v api.Val) (text, thrown string)
	// Which: the function that a Func is of.
	Which(fn api.Val) int
	// CellOf: the n-th cell that a Func is over.
	CellOf(fn api.Val, n int) api.Val

	// Collect: what the roots do not lead to goes. They are answered as they are then; so are others that the run still holds, though they are no roots.
	Collect(roots, others []api.Val) (movedRoots, movedOthers []api.Val)
	// Crammed: where an operation found no room, is a collection wanted, ahead of its being done again?
	Crammed() bool
	// Again: the operation that is done next found no room. What the roots do not lead to takes none in it.
	Again(roots func() []api.Val)
	// Reached: how many words these values lead to.
	Reached(roots []api.Val) int
}

// Did is what an operation came to.
type Did struct {
	Val    api.Val
	Thrown string // "": nothing
	Full   bool   // there is no room for what it asks for
}
