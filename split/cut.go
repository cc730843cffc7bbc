package split

import (
	"cmp"
	"slices"

	"merestone/api"
	"merestone/cross"
	"merestone/point"
	"merestone/quit"
	"merestone/seg"
)

// A cutting is curves under way, with the points that were found on them.
type cutting struct {
	curves  []api.Curve // by ID, so that the IDs of each edge come rising
	points  []api.Point
	numbers map[api.Point]int // where among the points each is
	on      [][]int           // of each curve the numbers of its points, as often as these were found
}

// check gives up for a curve that may not be, and then for too many of them.
func check(l []api.Curve) {
	for _, c := range l {
		if c.ID < 1 || c.ID > api.MaxNumber {
			quit.For(api.ErrArg)
		}
		quit.For(seg.Check(c.Seg))
	}
	if len(l) > api.MaxCorners {
		quit.For(api.ErrLong)
	}
}

// cut finds the points of each curve, of all others. Each pair of curves is asked once: where they meet is found
// on both.
func cut(l []api.Curve) *cutting {
	c := &cutting{
		curves:  slices.SortedFunc(slices.Values(l), func(a, b api.Curve) int { return cmp.Compare(a.ID, b.ID) }),
		numbers: map[api.Point]int{},
		on:      make([][]int, len(l)),
	}
	for i, own := range c.curves {
		for n := range seg.Nodes(own.Seg) {
			c.found(quit.Must(point.Of(n)), i)
		}
		for j, other := range c.curves[:i] {
			m := quit.Must(cross.Meet(own.Seg, other.Seg))
			if m.Kind != api.MeetNone {
				c.found(m.P, i, j)
			}
			if m.Kind == api.MeetPiece {
				c.found(m.Q, i, j)
			}
		}
	}
	return c
}

// found keeps a point that is on these curves.
func (c *cutting) found(p api.Point, curves ...int) {
	n, known := c.numbers[p]
	if !known {
		n = len(c.points)
		c.numbers[p] = n
		c.points = append(c.points, p)
	}
	for _, i := range curves {
		c.on[i] = append(c.on[i], n)
	}
}

// plan puts the points in order, and the curves' pieces between them.
func (c *cutting) plan() api.Plan {
	sorted := quit.Must(point.Sort(c.points...))
	places := make([]int, len(sorted)) // by numbers
	for at, p := range sorted {
		places[c.numbers[p]] = at
	}
	return api.Plan{Points: sorted, Edges: edges(c.pieces(places))}
}
