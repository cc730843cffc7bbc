package locate

import (
	"slices"

	"merestone/api"
	"merestone/faces"
	"merestone/point"
	"merestone/quit"
	"merestone/ratio"
)

// A structure is one under way.
type structure struct {
	api.Structure
}

// A spot is a point with its place.
type spot struct {
	at    api.Point
	place api.Place
}

// spots is the points with their places, up to the first that has none.
func (s structure) spots(l []api.Point) []spot {
	var all []spot
points:
	for p := range slices.Values(l) {
		x, e := Where(s.Structure, p)
		if e != api.OK {
			break points
		}
		all = append(all, spot{at: p, place: x})
	}
	return all
}

// where is where a point is. The plan's points are in order.
func (s structure) where(p api.Point) api.Place {
	quit.For(point.Right(p))
	i, is := slices.BinarySearchFunc(s.Plan.Points, p, func(own, p api.Point) int { return quit.Must(point.Cmp(own, p)) })
	if is {
		return api.Place{Kind: api.AtPoint, At: i}
	}
	if k := slices.IndexFunc(s.Plan.Edges, s.having(p, i)); k >= 0 {
		return api.Place{Kind: api.AtEdge, At: k}
	}
	return api.Place{Kind: api.AtFace, At: s.faceAt(p)}
}

// having tells of an edge if it has a point between its ends. The point is none of the plan's; behind is the place of
// the first one of these that is behind it. Most edges are told by places alone: few have ends ahead of the point and
// behind it.
func (s structure) having(p api.Point, behind int) func(api.Edge) bool {
	return func(e api.Edge) bool {
		if e.A < 0 || e.A >= behind || e.B < behind {
			return false
		}
		a := s.Plan.Points[e.A]
		return times(less(p.X, a.X), e.Way.Y) == times(less(p.Y, a.Y), e.Way.X)
	}
}

// faceAt is the face at a point that is on no edge: the one over the edge under it.
func (s structure) faceAt(p api.Point) int {
	k, is, e := faces.Under(s.Plan, p)
	quit.For(e)
	if !is {
		return 0
	}
	return s.face(2 * k)
}

// face is that of a half edge.
func (s structure) face(h int) int {
	return quit.Must(faces.Face(s.Mesh, s.Faces, h))
}

// less is a without b.
func less(a, b api.Rat) api.Rat {
	return quit.Must(ratio.Sub(a, b))
}

// times is x, n times.
func times(x api.Rat, n int64) api.Rat {
	return quit.Must(ratio.Mul(x, ratio.Of(n)))
}
