package ray

import (
	"iter"
	"slices"

	"merestone/api"
	"merestone/point"
	"merestone/quit"
	"merestone/ratio"
)

// A ray goes through its plan at all heights over x.
type ray struct {
	api.Plan
	x api.Rat
}

// over is the ray over x; it gives up, if no point may have that.
func over(p api.Plan, x api.Rat) ray {
	quit.For(point.Right(api.Point{X: x, Y: ratio.Of(0)}))
	return ray{Plan: p, x: x}
}

// column is all that it may hit, the lowest one ahead.
func (r ray) column() []api.Hit {
	l := r.hits()
	slices.SortStableFunc(l, func(a, b api.Hit) int { return seen(a.Y, b.Y) })
	return l
}

// hits is what it may hit and every sieve lets through.
func (r ray) hits(sieves ...func(api.Hit) bool) []api.Hit {
	var l []api.Hit
sifted:
	for h := range r.all() {
		for _, lets := range sieves {
			if !lets(h) {
				continue sifted
			}
		}
		l = append(l, h)
	}
	return l
}

// all goes over what it may hit: points straight over x, and edges that begin to the left of it and end to the right.
// The plan's points are in order, so most edges are told by places alone; few go over x, and only of these a height is
// worked out.
func (r ray) all() iter.Seq[api.Hit] {
	return func(yield func(api.Hit) bool) {
		first, behind := r.straight()
		for i := first; i < behind; i++ {
			if !yield(api.Hit{Kind: api.HitPoint, At: i, Y: r.Points[i].Y}) {
				return
			}
		}
		for k, e := range r.Edges {
			goes := e.A >= 0 && e.A < first && e.B >= behind && e.B < len(r.Points)
			if goes && !yield(api.Hit{Kind: api.HitEdge, At: k, Y: r.height(r.Points[e.A], r.Points[e.B])}) {
				return
			}
		}
	}
}

// straight is the places of the points that are straight over x: from first on, up to behind.
func (r ray) straight() (first, behind int) {
	first, _ = slices.BinarySearchFunc(r.Points, r.x, func(p api.Point, x api.Rat) int { return seen(p.X, x) })
	many, _ := slices.BinarySearchFunc(r.Points[first:], r.x, func(p api.Point, x api.Rat) int {
		if seen(p.X, x) > 0 {
			return 1
		}
		return -1
	})
	return first, first + many
}

// at is the height over x of the edge k; it gives up, if there is none.
func (r ray) at(k int) api.Rat {
	e := quit.In(r.Edges, k)
	a, b := quit.In(r.Points, e.A), quit.In(r.Points, e.B)
	switch {
	case seen(a.X, b.X) == 0:
		quit.For(api.ErrUpright)
	case seen(a.X, r.x)*seen(b.X, r.x) > 0:
		quit.For(api.ErrNone)
	}
	return r.height(a, b)
}

// height is that over x of the line through two points which are not straight above one another.
func (r ray) height(a, b api.Point) api.Rat {
	slope := quit.Must(ratio.Div(less(b.Y, a.Y), less(b.X, a.X)))
	return quit.Must(ratio.Add(a.Y, quit.Must(ratio.Mul(slope, less(r.x, a.X)))))
}

// less is a without b.
func less(a, b api.Rat) api.Rat {
	return quit.Must(ratio.Sub(a, b))
}
