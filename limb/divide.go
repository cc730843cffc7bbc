package limb

import (
	"math"
	"math/bits"
)

// parted is how often d, which is not nought, goes into m, and what is left.
func (m words) parted(d words) (often, left words) {
	if order(m[:], d[:]) < 0 {
		return words{}, m
	}
	if d.size() == 1 {
		often, left[0] = m.partedByWord(d[0])
		return often, left
	}
	return m.partedByWords(d)
}

// partedByWord is the same by a single word.
func (m words) partedByWord(d uint64) (often words, left uint64) {
	for i := m.size() - 1; i >= 0; i-- {
		often[i], left = bits.Div64(left, m[i], d)
	}
	return often, left
}

// partedByWords is the same by two words or more: a word of the quotient after the other, from the highest on.
// Both are shifted first till d's highest bit stands at the top of its word: takeOut leans on that.
func (m words) partedByWords(d words) (often, left words) {
	size := d.size()
	shift := bits.LeadingZeros64(d[size-1])
	d = d.up(shift)
	var rest [5]uint64
	low := m.up(shift)
	copy(rest[:], low[:])
	rest[4] = m[3] >> (64 - shift)
	for i := len(m) - size; i >= 0; i-- {
		often[i] = takeOut(rest[i:i+size+1], d[:size])
	}
	return often, words(rest[:4]).down(shift)
}

// takeOut takes d from m, which has a word more, as often as it goes, and tells how often.
// What the highest words alone tell is at most two too many, as d's highest bit is 1 (Knuth, 4.3.1).
func takeOut(m, d []uint64) uint64 {
	top := len(d) - 1
	often := uint64(math.MaxUint64)
	if m[top+1] < d[top] {
		often, _ = bits.Div64(m[top+1], m[top], d[top])
	}
	for owed := takeTimes(m, d, often); owed != 0; often-- {
		owed -= addTo(m, d)
	}
	return often
}

// shared is the greatest that divides both: the less is taken from the greater one till nothing is left of it,
// and what is left is halved as often as it goes, the twos that divide both being set aside.
func (m words) shared(n words) words {
	if m == (words{}) {
		return n
	}
	both := twos(m, n)
	m = m.down(twos(m))
	for n != (words{}) {
		n = n.down(twos(n))
		if m.size() == 1 && n.size() == 1 {
			m = words{sharedOdd(m[0], n[0])}
			break
		}
		if order(m[:], n[:]) > 0 {
			m, n = n, m
		}
		takeFrom(n[:], m[:])
	}
	return m.up(both)
}

// sharedOdd is the same of two odd words, for speed.
func sharedOdd(m, n uint64) uint64 {
	for m != n {
		m, n = min(m, n), max(m, n)
		n -= m
		n >>= bits.TrailingZeros64(n)
	}
	return m
}

// twos is how many twos divide each of them; any number of twos divides nought.
func twos(l ...words) int {
	least := 256
each:
	for _, m := range l {
		for at := range m.places() {
			least = min(least, at)
			continue each
		}
	}
	return least
}
