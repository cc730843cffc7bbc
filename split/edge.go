package split

import (
	"cmp"
	"slices"

	"merestone/api"
	"merestone/limb"
	"merestone/quit"
	"merestone/seg"
)

// ends are the places of the points between which an edge goes, a ahead of b.
type ends struct {
	a, b int
}

// An edge is one under way: curves may be added that have it.
type edge struct {
	ends
	way api.Way
	ids []int64
}

// pieces is what of the curves lies between points that follow one another, each once, by the places of the points.
func (c *cutting) pieces(places []int) []edge {
	var l []edge
	known := map[[2]int]int{} // where among these each is, by its ends
	gather := func(id int64, e edge) {
		key := [...]int{e.a, e.b}
		at, is := known[key]
		if !is {
			at = len(l)
			known[key] = at
			l = append(l, e)
		}
		l[at].ids = append(l[at].ids, id)
	}
	for i, own := range c.curves {
		way := wayOf(own.Seg)
		on := inOrder(c.on[i], places)
		for k := range on[1:] {
			gather(own.ID, edge{ends: ends{a: on[k], b: on[k+1]}, way: way})
		}
	}
	return l
}

// inOrder is the places of points by their numbers, rising, each once.
func inOrder(numbers, places []int) []int {
	l := make([]int, len(numbers))
	for i, n := range numbers {
		l[i] = places[n]
	}
	slices.Sort(l)
	return slices.Compact(l)
}

// wayOf is the way from the end that is ahead to the other one, without a common divisor but 1.
func wayOf(s api.Seg) api.Way {
	laid := quit.Must(seg.Laid(s))
	x, y := laid.B.X-laid.A.X, laid.B.Y-laid.A.Y
	shared, _ := limb.Small(quit.Must(limb.Gcd(limb.Of(x), limb.Of(y))))
	return api.Way{X: x / shared, Y: y / shared}
}

// edges is what they are told as, in order.
func edges(l []edge) []api.Edge {
	slices.SortFunc(l, func(x, y edge) int { return cmp.Or(cmp.Compare(x.a, y.a), cmp.Compare(x.b, y.b)) })
	var told []api.Edge
	for _, x := range l {
		told = append(told, api.Edge{A: x.a, B: x.b, Way: x.way, IDs: x.ids})
	}
	return told
}
