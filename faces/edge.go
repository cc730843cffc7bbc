package faces

import (
	"slices"

	"merestone/api"
	"merestone/point"
	"merestone/quit"
	"merestone/ratio"
)

// An edge is one under way: it begins to the left of some x, ends not to the left of it, and has a height there.
type edge struct {
	api.Edge
	place  int // among the plan's edges
	height api.Rat
}

// under is the place of the edge under a point, or none.
func under(p api.Plan, at api.Point) int {
	quit.For(point.Right(at))
	below := slices.DeleteFunc(spanning(p, at.X), func(e edge) bool { return quit.Must(ratio.Cmp(e.height, at.Y)) >= 0 })
	found, is := nearest(below, func(a, b edge) bool { return isAhead(b, a.byHeight, a.bySlope) })
	if !is {
		return none
	}
	return found.place
}

// spanning is the edges that begin to the left of x, and end not to the left of it. The plan's points are in order:
// those that are ahead of the first one that is not to the left of x are to the left of it. So most edges are told
// by places alone; few span an x, and only of these a height is worked out.
func spanning(p api.Plan, x api.Rat) []edge {
	first, _ := slices.BinarySearchFunc(p.Points, x, func(own api.Point, x api.Rat) int { return quit.Must(ratio.Cmp(own.X, x)) })
	var l []edge
	for k, e := range p.Edges {
		if e.A >= 0 && e.A < first && first <= e.B {
			l = append(l, edge{Edge: e, place: k, height: height(p.Points[e.A], slope(e.Way), x)})
		}
	}
	return l
}

// height is how high the line of this slope through a point is at x.
func height(from api.Point, slope, x api.Rat) api.Rat {
	far := quit.Must(ratio.Sub(x, from.X))
	return quit.Must(ratio.Add(from.Y, quit.Must(ratio.Mul(far, slope))))
}

// slope is how much a way that is not upright rises on the way to the right.
func slope(w api.Way) api.Rat {
	return quit.Must(ratio.Div(ratio.Of(w.Y), ratio.Of(w.X)))
}

// byHeight tells -1, 0 or 1: e is higher than the other one, as high, lower.
func (e edge) byHeight(other edge) int {
	return quit.Must(ratio.Cmp(other.height, e.height))
}

// bySlope tells -1, 0 or 1: e rises less than the other one, as much, more.
func (e edge) bySlope(other edge) int {
	return quit.Must(ratio.Cmp(slope(e.Way), slope(other.Way)))
}

// isAhead tells if an edge is ahead of another one: what is asked first counts, where it does not find them alike.
func isAhead(other edge, asked ...func(edge) int) bool {
	for _, ask := range asked {
		if c := ask(other); c != 0 {
			return c < 0
		}
	}
	return false
}

// nearest is the one that is nearer than the others, the earliest of several, if there is any.
func nearest[T any](l []T, nearer func(a, b T) bool) (found T, is bool) {
	for i, x := range l {
		if i == 0 || nearer(x, found) {
			found = x
		}
	}
	return found, len(l) > 0
}
