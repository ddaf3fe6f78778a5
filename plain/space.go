package plain

import (
	"iter"
	"slices"

	"gearbox/api"
)

// Space is the objects of a run, with room for so many words. Numbers of objects that no root leads to are given out once more, but not ahead of the room being needed: till then nobody has to know which ones they are.
type Space struct {
	objects api.Store
	words   []int   // of each object
	free    []int64 // numbers that are no object's
	used    int     // the words of all objects, those that no root leads to among them
	room    int
	roots   iter.Seq[api.Val]
}

// NewSpace: without objects; the roots are asked for as they are then, whenever room is needed.
func NewSpace(room int, roots iter.Seq[api.Val]) *Space {
	return &Space{room: room, roots: roots}
}

// Objects: the store in which deeds are worked out. Who has it changes nothing in it.
func (s *Space) Objects() api.Store { return s.objects }

// Do: an operation, worked out in this space, that does not throw; false: there is no room for what it asks for, and nothing is done.
func (s *Space) Do(d Deed) (api.Val, bool) {
	if !s.hasRoom(d.Words) {
		return api.Val{}, false
	}
	if d.New.Kind != api.Nil {
		return s.add(d.New, d.Words), true
	}
	d.Change.On(s.objects)
	if d.Words > 0 {
		s.recount(d.Change.Of)
	}
	return d.Val, true
}

// Reached: how many words the roots lead to.
func (s *Space) Reached() int {
	s.collect()
	return s.used
}

// hasRoom: is there room for so many words more?
func (s *Space) hasRoom(n int) bool {
	if s.used+n > s.room {
		s.collect()
	}
	return s.used+n <= s.room
}

// add: a new object, in values of its own.
func (s *Space) add(o api.Obj, words int) api.Val {
	o.L = slices.Clone(o.L)
	s.used += words
	if last := len(s.free) - 1; last >= 0 {
		n := s.free[last]
		s.free = s.free[:last]
		s.objects[n-1], s.words[n-1] = o, words
		return api.Val{Kind: o.Kind, N: n}
	}
	s.objects, s.words = append(s.objects, o), append(s.words, words)
	return api.Val{Kind: o.Kind, N: int64(len(s.objects))}
}

// recount: an object has other words than it had.
func (s *Space) recount(of int64) {
	words := wordsOf(s.objects[of-1])
	s.used += words - s.words[of-1]
	s.words[of-1] = words
}

// collect: what no root leads to is there no more.
func (s *Space) collect() {
	reached := s.reached()
	s.used, s.free = 0, s.free[:0]
	for i, is := range reached {
		if is {
			s.used += s.words[i]
			continue
		}
		s.objects[i] = api.Obj{}
		s.free = append(s.free, int64(i)+1)
	}
}

// reached: of each object, whether the roots lead to it. Objects may lie deeper in one another than calls should, so that those that are to be gone to are kept in a list.
func (s *Space) reached() []bool {
	met := make([]bool, len(s.objects))
	var todo []int64
	meet := func(v api.Val) {
		if v.Kind >= api.Text && !met[v.N-1] {
			met[v.N-1] = true
			todo = append(todo, v.N)
		}
	}
	for v := range s.roots {
		meet(v)
	}
	for len(todo) > 0 {
		last := len(todo) - 1
		o := s.objects[todo[last]-1]
		todo = todo[:last]
		for _, v := range o.L {
			meet(v)
		}
	}
	return met
}
