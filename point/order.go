package point

import (
	"slices"

	"merestone/api"
	"merestone/limb"
)

// order tells -1, 0 or 1, by X, of one X by Y; both points may be.
func order(a, b api.Point) int {
	if a.X != b.X {
		return seen(a.X, b.X)
	}
	return seen(a.Y, b.Y)
}

// seen tells where a is as seen from b. Both are a point's, and known to be right: ratio's Cmp would find that out
// once more at each of a sort's steps. What is multiplied is below 2^160, so it is never too great.
func seen(a, b api.Rat) int {
	own, _ := limb.Mul(a.N, b.D)
	other, _ := limb.Mul(b.N, a.D)
	c, _ := limb.Cmp(own, other)
	return c
}

// sorted is the points by the order. Their places are sorted in their stead: points are long.
func sorted(l []api.Point) []api.Point {
	places := make([]int, len(l))
	for i := range places {
		places[i] = i
	}
	slices.SortFunc(places, func(i, j int) int { return order(l[i], l[j]) })
	s := make([]api.Point, len(l))
	for i, at := range places {
		s[i] = l[at]
	}
	return s
}

// once is a list in which those that follow one another and are the same stand once.
func once[T comparable](l []T) []T {
	var kept []T
	for i, x := range l {
		if i == 0 || x != l[i-1] {
			kept = append(kept, x)
		}
	}
	return kept
}
