package angle

import (
	"cmp"

	"merestone/api"
)

// most is the greatest X and Y of a way, in magnitude: so great that a way goes from any node to any other one.
const most = 1 << 27

// An arm is a way under way, with the quarter that it is in.
type arm struct {
	api.Way
	quarter int
}

// told is what is asked of ways; if one of them may not be, nothing is asked.
func told[T any](ask func([]arm) T, l ...api.Way) (answer T, e api.Errno) {
	all := make([]arm, len(l))
	for i, w := range l {
		if !may(w) {
			goto wrong
		}
		all[i] = arm{Way: w, quarter: quarterOf(w)}
	}
	return ask(all), api.OK
wrong:
	return answer, api.ErrArg
}

// may tells if the way may be.
func may(w api.Way) bool {
	return w != api.Way{} && min(w.X, w.Y) >= -most && max(w.X, w.Y) <= most
}

// quarterOf is the way's quarter, which is one more than that ahead of it.
func quarterOf(w api.Way) int {
	quarter := 0
	switch {
	case w.X >= 0 && w.Y < 0:
		quarter++
		fallthrough
	case w.X < 0 && w.Y <= 0:
		quarter++
		fallthrough
	case w.X <= 0 && w.Y > 0:
		quarter++
	}
	return quarter
}

// side tells -1, if b is to the left of the line through it, 1, if b is to the right, 0, if b is on it. What is
// multiplied is at most 2^27, so words are enough.
func (a arm) side(b arm) int {
	return cmp.Compare(a.Y*b.X, a.X*b.Y)
}

// order tells -1, 0 or 1: it is ahead of b, one with it, behind it. Quarters are told first: sides tell who is ahead
// only of two that are less than half a turn apart.
func (a arm) order(b arm) int {
	return cmp.Or(cmp.Compare(a.quarter, b.quarter), a.side(b))
}

// opposite tells if both are on one line, and not one.
func (a arm) opposite(b arm) bool {
	return a.side(b) == 0 && a.quarter != b.quarter
}

// next is the place of the first one that comes behind it, against the clock. Those that are not behind it by
// their turns come later, past the way to the right.
func (a arm) next(l []arm) int {
	return first(l, func(b, c arm) bool {
		later, laterToo := b.order(a) <= 0, c.order(a) <= 0
		if later != laterToo {
			return laterToo
		}
		return b.order(c) < 0
	})
}

// first is the place of the first one: that which none is ahead of, of several such the first.
func first[T any](l []T, ahead func(a, b T) bool) int {
	at := 0
	for i, one := range l {
		if ahead(one, l[at]) {
			at = i
		}
	}
	return at
}
