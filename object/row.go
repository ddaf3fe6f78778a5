package object

import "gearbox/api"

// How many values the first Items have room for, if they are made for what is put.
const (
	listRoom = 4
	mapRoom  = 8
)

// newRow: a new List or Map with these values, and right behind it Items with so much room, if that is not 0.
func (m memory) newRow(k api.Kind, l []api.Val, room int) (api.Val, api.Errno) {
	words := 3
	if room > 0 {
		words += 1 + 2*room
	}
	if !m.fits(words) {
		return api.Val{}, api.ErrFull
	}
	at, _ := m.Alloc(k, 2)
	if room > 0 {
		in, _ := m.Alloc(api.Items, 2*room)
		m.Write(at, 1, uint64(in)+1)
		m.add(at, body{in: in}, l...)
	}
	return api.Val{Kind: k, N: at}, api.OK
}

// add: the List or Map at a place has these values too, behind all; there is room.
func (m memory) add(at int64, b body, l ...api.Val) {
	for i, v := range l {
		m.hold(b, b.count+i, v)
	}
	m.Write(at, 0, uint64(b.count+len(l)))
}

// push adds values; if there is no room, in new Items with room for least values, or for twice as many as there was.
func (m memory) push(at int64, b body, least int, l ...api.Val) api.Errno {
	if b.count+len(l) > b.room {
		room := max(least, 2*b.room)
		in, e := m.Alloc(api.Items, 2*room)
		if e != api.OK {
			return e
		}
		b = m.moved(b, in)
		m.Write(at, 1, uint64(in)+1)
	}
	m.add(at, b, l...)
	return api.OK
}

// moved: the same values, in new Items.
func (m memory) moved(b body, in int64) body {
	to := body{count: b.count, in: in}
	m.each(b, func(i int, v api.Val) bool {
		m.hold(to, i, v)
		return true
	})
	return to
}

// putItem: x stands at the place k of a List.
func (m memory) putItem(at int64, b body, k, x api.Val) api.Errno {
	n := int64(b.count)
	switch {
	case k.Kind != api.Int:
		return api.ErrKind
	case k.N < 0 || k.N > n || !m.mayBeHeld(x):
		return api.ErrArg
	case k.N < n:
		m.hold(b, int(k.N), x)
		return api.OK
	case n == api.MaxItems:
		return api.ErrLimit
	}
	return m.push(at, b, listRoom, x)
}

// putPair: x is the value of the key k of a Map.
func (m memory) putPair(at int64, b body, k, x api.Val) api.Errno {
	if !m.mayBeHeld(k) || !m.mayBeHeld(x) {
		return api.ErrArg
	}
	if i, ok := m.keyAt(b, k); ok {
		m.hold(b, i+1, x)
		return api.OK
	}
	if b.count == 2*api.MaxItems {
		return api.ErrLimit
	}
	return m.push(at, b, mapRoom, k, x)
}

// keyAt: where the first key that is the same as k stands among a Map's values; false: there is none.
func (m memory) keyAt(b body, k api.Val) (int, bool) {
	same := m.keyLike(b, k)
	for i := 0; i < b.count; i += 2 {
		if same(i) {
			return i, true
		}
	}
	return 0, false
}

// keyLike: what tells of the values of an object, by where they stand, whether they are the same as k. Mostly one word is enough for that: a map may have many keys.
func (m memory) keyLike(b body, k api.Val) func(i int) bool {
	same := m.likeness(k)
	if k.Kind == api.Nil || k.Kind == api.Text {
		return func(i int) bool { return same(m.value(b, i)) }
	}
	return func(i int) bool {
		return m.word(b.in, b.first+2*i+1) == uint64(k.N) && same(m.value(b, i))
	}
}

// valueOf: the value of a Map's key; nil, if it is none.
func (m memory) valueOf(b body, k api.Val) api.Val {
	if i, ok := m.keyAt(b, k); ok {
		return m.value(b, i+1)
	}
	return api.Val{}
}

// eachKeyOnce: keys with their values, of those that are the same the first key and the last value. Keys are looked up, since a map may have too many of them to hold each against all others.
func (m memory) eachKeyOnce(l []api.Val) []api.Val {
	var once []api.Val
	texts := map[string]api.Val{}
	places := map[api.Val]int{}
	for i := 0; i < len(l); i += 2 {
		k := m.firstLike(texts, l[i])
		at, ok := places[k]
		if !ok {
			at = len(once)
			places[k] = at
			once = append(once, l[i], api.Val{})
		}
		once[at+1] = l[i+1]
	}
	return once
}

// firstLike: the first value that came and is the same as v, which is a Text where they may differ.
func (m memory) firstLike(texts map[string]api.Val, v api.Val) api.Val {
	s, ok := m.textOf(v)
	if !ok {
		return v
	}
	if first, ok := texts[s]; ok {
		return first
	}
	texts[s] = v
	return v
}
