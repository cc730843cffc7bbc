package limb

import (
	"cmp"
	"iter"
	"math/bits"
)

// words are a magnitude, the lowest word ahead.
type words [4]uint64

// order tells -1, 0 or 1: a is less than b, the same, greater. Both are of one length; what stands last counts most.
func order[W cmp.Ordered](a, b []W) int {
	for i := len(a) - 1; i >= 0; i-- {
		if c := cmp.Compare(a[i], b[i]); c != 0 {
			return c
		}
	}
	return 0
}

// addTo adds n to m, which is at least as long, and tells the carry above it.
func addTo(m, n []uint64) (carry uint64) {
	for i := range m {
		var w uint64
		if i < len(n) {
			w = n[i]
		}
		m[i], carry = bits.Add64(m[i], w, carry)
	}
	return carry
}

// takeFrom takes n from m, which is as long and not less.
func takeFrom(m, n []uint64) {
	var borrow uint64
	for i := range m {
		m[i], borrow = bits.Sub64(m[i], n[i], borrow)
	}
}

// product is the lower half of m times n, and anything but nought if there is an upper one.
func product(m, n words) (low words, over uint64) {
	var all [8]uint64
	for i, w := range m {
		if w != 0 {
			all[i+4] = addTimes(all[i:i+4], n[:], w)
		}
	}
	return words(all[:4]), all[4] | all[5] | all[6] | all[7]
}

// addTimes adds n, w times, to m, which is as long, and tells the carry above it.
func addTimes(m, n []uint64, w uint64) (carry uint64) {
	for i := range n {
		high, low := bits.Mul64(n[i], w)
		var c, d uint64
		low, c = bits.Add64(low, carry, 0)
		m[i], d = bits.Add64(m[i], low, 0)
		carry = high + c + d
	}
	return carry
}

// takeTimes takes n, w times, from m, which has a word more, and tells the borrow above it.
func takeTimes(m, n []uint64, w uint64) (borrow uint64) {
	var carry uint64
	for i := range n {
		high, low := bits.Mul64(n[i], w)
		var c uint64
		low, c = bits.Add64(low, carry, 0)
		carry = high + c
		m[i], borrow = bits.Sub64(m[i], low, borrow)
	}
	m[len(n)], borrow = bits.Sub64(m[len(n)], carry, borrow)
	return borrow
}

// places goes over the places of the bits that are 1, rising.
func (m words) places() iter.Seq[int] {
	return func(yield func(int) bool) {
		for i, w := range m {
			for ; w != 0; w &= w - 1 { // without its lowest bit
				if !yield(64*i + bits.TrailingZeros64(w)) {
					return
				}
			}
		}
	}
}

// size is how many words there are up to the highest that is not nought.
func (m words) size() int {
	size := len(m)
	for size > 0 && m[size-1] == 0 {
		size--
	}
	return size
}

// up is m, shifted so many places up; what goes over the highest word is lost.
func (m words) up(places int) (n words) {
	whole, rest := places/64, places%64
	for i := whole; i < len(m); i++ {
		n[i] = m[i-whole] << rest
		if i > whole {
			n[i] |= m[i-whole-1] >> (64 - rest)
		}
	}
	return n
}

// down is m, shifted so many places down.
func (m words) down(places int) (n words) {
	whole, rest := places/64, places%64
	for i := whole; i < len(m); i++ {
		n[i-whole] = m[i] >> rest
		if i+1 < len(m) {
			n[i-whole] |= m[i+1] << (64 - rest)
		}
	}
	return n
}
