package tags

import (
	"cmp"
	"slices"

	"merestone/api"
)

// most is how often a number is there at most.
const most = 255

// A number is one that may be.
type number struct {
	id int64
}

// A count is a number, and how often it is there: or, if it is added to another one, how much more often.
type count struct {
	number
	times int
}

// may tells if a number may be.
func may(n int64) bool {
	return n >= 1 && n <= api.MaxNumber
}

// mayAll tells if all numbers may be.
func mayAll(l ...int64) bool {
	return !slices.ContainsFunc(l, func(n int64) bool { return !may(n) })
}

// often is the number alone, so often.
func often(n int64, times int) []count {
	return []count{{number{n}, times}}
}

// from is Tags of these counts, which it keeps; ErrLong of too many.
func from(l []count) (Tags, api.Errno) {
	if len(l) > api.MaxObjects || slices.ContainsFunc(l, func(c count) bool { return c.times > most }) {
		return Tags{}, api.ErrLong
	}
	return Tags{l}, api.OK
}

// together are the counts of both, without those that come to nought.
func together(a, b []count) []count {
	return merged(a, b, order, func(c, d count) (count, bool) {
		c.times += d.times
		return c, c.times > 0
	})
}

// order is that of the numbers.
func order(a, b count) int {
	return cmp.Compare(a.id, b.id)
}

// merged is what two rising lists have, in one rising list of its own. Where both have one, it has what both make,
// if they make anything.
func merged[T any](a, b []T, order func(a, b T) int, both func(a, b T) (T, bool)) []T {
	l := make([]T, 0, len(a)+len(b))
	for len(a) > 0 && len(b) > 0 {
		switch c := order(a[0], b[0]); {
		case c < 0:
			l, a = append(l, a[0]), a[1:]
		case c > 0:
			l, b = append(l, b[0]), b[1:]
		default:
			if x, is := both(a[0], b[0]); is {
				l = append(l, x)
			}
			a, b = a[1:], b[1:]
		}
	}
	return append(append(l, a...), b...)
}
