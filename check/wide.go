package check

import (
	"math/bits"

	"merestone/api"
)

// A wide is a whole number, its lowest word ahead; below nought it is what is left of 2^320 without it. What is held
// against one another here are products of a numerator's difference (below 2^161), two denominators (below 2^64) and a
// way (at most 2^27): below 2^316 in magnitude, so those that are the same in these words are the same. (The layers
// that this one calls tell where a point is as seen from another one, but not how far it is.)
type wide [5]uint64

// leads tells if the way is along the line from a to b.
func leads(a, b api.Point, w api.Way) bool {
	right, up := between(a.X, b.X), between(a.Y, b.Y)
	return product(right.over, up.under, whole(w.Y)) == product(up.over, right.under, whole(w.X))
}

// A gap is how far it is from a Rat to another one: a fraction, not in lowest terms.
type gap struct {
	over, under wide
}

// between is how far it is from a to b.
func between(a, b api.Rat) gap {
	to, from := product(wideOf(b.N), wideOf(a.D)), product(wideOf(a.N), wideOf(b.D))
	return gap{over: to.minus(from), under: product(wideOf(a.D), wideOf(b.D))}
}

// wideOf is an Int.
func wideOf(x api.Int) (w wide) {
	copy(w[:], x.Mag[:])
	if x.Neg {
		return wide{}.minus(w)
	}
	return w
}

// whole is a number of one word.
func whole(n int64) wide {
	return wideOf(api.Int{Neg: n < 0, Mag: [4]uint64{uint64(max(n, -n))}})
}

// minus is w without v.
func (w wide) minus(v wide) wide {
	var borrow uint64
	for i := range w {
		w[i], borrow = bits.Sub64(w[i], v[i], borrow)
	}
	return w
}

// product is all of them, one times the other.
func product(l ...wide) wide {
	p := wide{1}
	for _, w := range l {
		p = p.times(w)
	}
	return p
}

// times is w, v times; what is above 2^320 is left away.
func (w wide) times(v wide) (p wide) {
	for i, n := range w {
		var carry uint64
		for j := range len(w) - i {
			high, low := bits.Mul64(n, v[j])
			var c, d uint64
			low, c = bits.Add64(low, carry, 0)
			p[i+j], d = bits.Add64(p[i+j], low, 0)
			carry = high + c + d
		}
	}
	return p
}
