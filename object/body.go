package object

import (
	"slices"

	"gearbox/api"
)

// maxFn is the greatest number of a function.
const maxFn = 1 << 62

// body is what an object that may be has.
type body struct {
	count int   // how many bytes (a Text) or values
	room  int   // of a List, a Map
	in    int64 // in whose words the values are held: the Items' of a List, of a Map, else its own
	first int   // from which word on
}

// take: the object that a value leads to; an error, if it is of none of these kinds, or may not be.
func (m memory) take(v api.Val, kinds ...api.Kind) (body, api.Errno) {
	switch {
	case !m.there():
		return body{}, api.ErrNil
	case !slices.Contains(kinds, v.Kind):
		return body{}, api.ErrKind
	}
	b, ok := m.find(v)
	if !ok {
		return body{}, api.ErrArg
	}
	return b, api.OK
}

// find: the object that a value leads to; false, if there is none, or it may not be.
func (m memory) find(v api.Val) (body, bool) {
	if !m.leads(v) {
		return body{}, false
	}
	switch v.Kind {
	case api.Text:
		return m.textBody(v.N)
	case api.List:
		return m.rowBody(v.N, api.MaxItems)
	case api.Map:
		b, ok := m.rowBody(v.N, 2*api.MaxItems)
		return b, ok && b.count%2 == 0
	case api.Func:
		return m.funcBody(v.N)
	}
	size, _ := m.Size(v.N)
	return body{count: 1, in: v.N}, size == 2
}

func (m memory) textBody(at int64) (body, bool) {
	size, _ := m.Size(at)
	n := m.word(at, 0)
	if n > api.MaxText || size != textSize(int(n)) {
		return body{}, false
	}
	return body{count: int(n)}, true
}

// rowBody: of a List or a Map with at most so many values.
func (m memory) rowBody(at int64, most uint64) (body, bool) {
	size, _ := m.Size(at)
	n, items := m.word(at, 0), m.word(at, 1)
	if size != 2 || n > most {
		return body{}, false
	}
	if items == 0 {
		return body{}, n == 0
	}
	in := int64(items - 1)
	k, _ := m.Kind(in)
	has, _ := m.Size(in)
	if k != api.Items || has%2 != 0 || has/2 < int(n) {
		return body{}, false
	}
	return body{count: int(n), room: has / 2, in: in}, true
}

func (m memory) funcBody(at int64) (body, bool) {
	size, _ := m.Size(at)
	if size%2 == 0 || m.word(at, 0) > maxFn {
		return body{}, false
	}
	return body{count: size / 2, in: at, first: 1}, true
}

// fn: which function a Func tells.
func (m memory) fn(at int64) int { return int(m.word(at, 0)) }
