package object

import "gearbox/api"

// wordBytes is how many bytes a word has.
const wordBytes = 8

// textSize: of a Text of so many bytes.
func textSize(n int) int { return 1 + (n+wordBytes-1)/wordBytes }

// pack: the first bytes of a text as a word, as many as it has room for, the first one the lowest.
func pack(s string) uint64 {
	var w uint64
	for i := range min(len(s), wordBytes) {
		w |= uint64(s[i]) << (8 * i)
	}
	return w
}

// lowest: the bits of so many bytes, of a word at most. (All 64 are shifted out, and 0 less one is all of them.)
func lowest(n int) uint64 { return uint64(1)<<(8*min(n, wordBytes)) - 1 }

// newText: a new Text of at most MaxText bytes.
func (m memory) newText(s string) (api.Val, api.Errno) {
	at, e := m.Alloc(api.Text, textSize(len(s)))
	if e != api.OK {
		return api.Val{}, e
	}
	m.Write(at, 0, uint64(len(s)))
	for i := 0; i < len(s); i += wordBytes {
		m.Write(at, 1+i/wordBytes, pack(s[i:]))
	}
	return api.Val{Kind: api.Text, N: at}, api.OK
}

// said: the n bytes of the Text at a place.
func (m memory) said(at int64, n int) string {
	b := make([]byte, 0, n+wordBytes)
	for i := 1; len(b) < n; i++ {
		w := m.word(at, i)
		for range wordBytes {
			b = append(b, byte(w))
			w >>= 8
		}
	}
	return string(b[:n])
}

// byteAt: the byte i of the Text at a place.
func (m memory) byteAt(at int64, i int) string {
	w := m.word(at, 1+i/wordBytes)
	return string([]byte{byte(w >> (8 * (i % wordBytes)))})
}

// says: does a value lead to a Text that may be and says s? It is asked of each key of a map: so the words are taken as they stand, and whether that Text may be is asked last, since few get that far.
func (m memory) says(v api.Val, s string) bool {
	if v.Kind != api.Text || m.word(v.N, 0) != uint64(len(s)) {
		return false
	}
	for i := 0; i < len(s); i += wordBytes {
		unlike := m.word(v.N, 1+i/wordBytes) ^ pack(s[i:])
		if unlike&lowest(len(s)-i) != 0 {
			return false
		}
	}
	_, ok := m.find(v)
	return ok
}

// textOf: what a value says; false, if it leads to no Text that may be.
func (m memory) textOf(v api.Val) (string, bool) {
	if v.Kind != api.Text {
		return "", false
	}
	b, ok := m.find(v)
	if !ok {
		return "", false
	}
	return m.said(v.N, b.count), true
}

// likeness: what tells of values whether they are the same as a.
func (m memory) likeness(a api.Val) func(api.Val) bool {
	if a.Kind == api.Nil {
		return func(b api.Val) bool { return b.Kind == api.Nil }
	}
	if s, ok := m.textOf(a); ok {
		return func(b api.Val) bool { return m.says(b, s) }
	}
	return func(b api.Val) bool { return a == b }
}
