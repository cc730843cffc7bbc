package ratio

import (
	"math"
	"math/bits"

	"merestone/api"
	"merestone/quit"
)

// A wide is a whole number wider than an Int, its lowest word ahead; below nought it is what is left of 2^640 without
// it. Two products of Ints and what they differ by are below 2^513: so the highest word tells the sign alone.
type wide [10]uint64

// product is a times b.
func product(a, b api.Int) (w wide) {
	for i, n := range a.Mag {
		if n != 0 {
			w[i+4] = addTimes(w[i:i+4], b.Mag[:], n)
		}
	}
	if a.Neg != b.Neg {
		return wide{}.minus(w)
	}
	return w
}

// addTimes adds n, m times, to w, which is as long, and tells the carry above it.
func addTimes(w, n []uint64, m uint64) (carry uint64) {
	for i := range n {
		high, low := bits.Mul64(n[i], m)
		var c, d uint64
		low, c = bits.Add64(low, carry, 0)
		w[i], d = bits.Add64(w[i], low, 0)
		carry = high + c + d
	}
	return carry
}

// minus is w without v.
func (w wide) minus(v wide) wide {
	var borrow uint64
	for i := range w {
		w[i], borrow = bits.Sub64(w[i], v[i], borrow)
	}
	return w
}

// sign tells -1, 0 or 1: below nought, nought, above it.
func (w wide) sign() int {
	switch {
	case w == wide{}:
		return 0
	case w[len(w)-1]>>63 == 1:
		return -1
	}
	return 1
}

// narrow is the number as an Int; it gives up if it is too great for one.
func (w wide) narrow() api.Int {
	n := api.Int{Neg: w.sign() < 0}
	if n.Neg {
		w = wide{}.minus(w)
	}
	var low wide
	copy(low[:len(n.Mag)], w[:])
	if w != low {
		quit.For(api.ErrOver)
	}
	copy(n.Mag[:], w[:])
	return n
}

// parted is how often d, which is above nought, goes into w, rounded towards nought, and what is left in magnitude:
// a word of the quotient after the other, from the highest on. Both are shifted first till d's highest bit stands
// at the top of its word: takeOut leans on that, and on the nought at the top of w.
func (w wide) parted(d api.Int) (often wide, left api.Int) {
	if w.sign() < 0 {
		often, left = wide{}.minus(w).parted(d)
		return wide{}.minus(often), left
	}
	size := len(d.Mag)
	for d.Mag[size-1] == 0 {
		size--
	}
	shift := bits.LeadingZeros64(d.Mag[size-1])
	up(w[:], shift)
	up(d.Mag[:size], shift)
	for i := len(w) - size - 1; i >= 0; i-- {
		often[i] = takeOut(w[i:i+size+1], d.Mag[:size])
	}
	down(w[:], shift)
	copy(left.Mag[:], w[:])
	return often, left
}

// takeOut takes d from w, which has a word more, as often as it goes, and tells how often.
// What the highest words alone tell is at most two too many, as d's highest bit is 1 (Knuth, 4.3.1).
func takeOut(w, d []uint64) uint64 {
	top := len(d) - 1
	often := uint64(math.MaxUint64)
	if w[top+1] < d[top] {
		often, _ = bits.Div64(w[top+1], w[top], d[top])
	}
	for owed := takeTimes(w, d, often); owed != 0; often-- {
		owed -= addOnce(w, d)
	}
	return often
}

// takeTimes takes d, m times, from w, which has a word more, and tells the borrow above it.
func takeTimes(w, d []uint64, m uint64) (borrow uint64) {
	var carry uint64
	for i := range d {
		high, low := bits.Mul64(d[i], m)
		var c uint64
		low, c = bits.Add64(low, carry, 0)
		carry = high + c
		w[i], borrow = bits.Sub64(w[i], low, borrow)
	}
	w[len(d)], borrow = bits.Sub64(w[len(d)], carry, borrow)
	return borrow
}

// addOnce adds d to w, which has a word more, and tells the carry above it.
func addOnce(w, d []uint64) (carry uint64) {
	for i := range d {
		w[i], carry = bits.Add64(w[i], d[i], carry)
	}
	w[len(d)], carry = bits.Add64(w[len(d)], 0, carry)
	return carry
}

// up shifts words up by less than a word; what goes over the highest is lost.
func up(w []uint64, places int) {
	for i := len(w) - 1; i > 0; i-- {
		w[i] = w[i]<<places | w[i-1]>>(64-places)
	}
	w[0] <<= places
}

// down shifts words down by less than a word.
func down(w []uint64, places int) {
	last := len(w) - 1
	for i := range last {
		w[i] = w[i]>>places | w[i+1]<<(64-places)
	}
	w[last] >>= places
}
