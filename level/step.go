package level

import (
	"slices"

	"merestone/api"
	"merestone/quit"
	"merestone/ratio"
)

// A step is a line with its height at the x at which lines are compared.
type step struct {
	line
	y api.Rat
}

// steps is the steps of segments at x, all of which have a height there.
func steps(x api.Rat, segments ...api.Seg) []step {
	l := make([]step, len(segments))
	for i, one := range lines(flawsAt(x), segments...) {
		l[i] = step{line: one, y: one.height(x)}
	}
	return l
}

// order tells -1, 0 or 1: it is lower than the other one, neither, the other one is lower. Who rises less is told by
// both slopes times how far both go to the right, below 2^54.
func (s step) order(t step) int {
	if s.y != t.y {
		return quit.Must(ratio.Cmp(s.y, t.y))
	}
	return order(s.up*t.right, t.up*s.right)
}

// sorted is the segments by their steps. Their places are sorted in their stead: steps are long.
func sorted(l []step, segments []api.Seg) []api.Seg {
	places := make([]int, len(l))
	for i := range places {
		places[i] = i
	}
	slices.SortStableFunc(places, func(i, j int) int { return l[i].order(l[j]) })
	s := make([]api.Seg, len(l))
	for i, at := range places {
		s[i] = segments[at]
	}
	return s
}
