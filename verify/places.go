package verify

import "math/bits"

// places is a set of them, by bits, of which the least one is found soon: code may go back to many places.
type places struct {
	bits  []uint64
	least int // none is in the bits ahead of these
}

func newPlaces(n int) places { return places{bits: make([]uint64, n/64+1)} }

func (p *places) add(pc int) {
	p.bits[pc/64] |= 1 << (pc % 64)
	p.least = min(p.least, pc/64)
}

// taken goes through them, the least one first, and each is none of them from then on. Others may be added meanwhile.
func (p *places) taken(yield func(pc int) bool) {
	for p.least < len(p.bits) {
		b := p.bits[p.least]
		if b == 0 {
			p.least++
			continue
		}
		p.bits[p.least] = b & (b - 1)
		if !yield(64*p.least + bits.TrailingZeros64(b)) {
			return
		}
	}
}
