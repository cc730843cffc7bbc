package angle

import (
	"iter"
	"slices"

	"merestone/api"
)

// A circle is who is where: ways by their quarters, those of one in order.
type circle [4][]arm

// circleOf is the circle of these ways.
func circleOf(l []arm) circle {
	var c circle
	for _, a := range l {
		c[a.quarter] = append(c[a.quarter], a)
	}
	for _, quarter := range c {
		slices.SortStableFunc(quarter, func(a, b arm) int { return a.side(b) })
	}
	return c
}

// ways is all of them, in order.
func (c circle) ways() []api.Way {
	var l []api.Way
	for _, quarter := range c {
		for _, a := range quarter {
			l = append(l, a.Way)
		}
	}
	return l
}

// pairs goes over the ways of a quarter, each with the one behind it, which may be in another quarter.
func (c circle) pairs(quarter int) iter.Seq2[arm, arm] {
	return func(yield func(a, b arm) bool) {
		l := c[quarter]
		for i, a := range l {
			behind := l[i+1:]
			if len(behind) == 0 {
				behind = c.from(quarter + 1)
			}
			if !yield(a, behind[0]) {
				return
			}
		}
	}
}

// from is the ways of the first quarter, from this one on, that has any; one must have.
func (c circle) from(quarter int) []arm {
	l := c[quarter%len(c)]
	if len(l) == 0 {
		return c.from(quarter + 1)
	}
	return l
}
