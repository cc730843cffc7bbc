package check

import (
	"merestone/angle"
	"merestone/api"
	"merestone/quit"
)

// An edge is one under way, with the points of its plan, which are right.
type edge struct {
	api.Edge
	points []api.Point
}

// edge is one of the structure's.
func (s structure) edge(e api.Edge) edge {
	return edge{Edge: e, points: s.Plan.Points}
}

// check gives up for an edge that may not be.
func (e edge) check() {
	quit.For(angle.Check(e.Way))
	if e.A < 0 || e.A >= e.B || e.B >= len(e.points) {
		quit.For(api.ErrRange)
	}
	if shared(e.Way.X, e.Way.Y) != 1 || !e.forth() || !leads(e.points[e.A], e.points[e.B], e.Way) || !e.numbered() {
		quit.For(api.ErrArg)
	}
}

// forth tells if its way leads to points that are behind, as B is behind A.
func (e edge) forth() bool {
	return e.Way.X > 0 || e.Way.X == 0 && e.Way.Y > 0
}

// numbered tells if it has IDs that may be, none of which is behind a greater one.
func (e edge) numbered() bool {
	last := len(e.IDs) - 1
	return last >= 0 && e.IDs[0] >= 1 && e.IDs[last] <= api.MaxNumber && follow(e.IDs, func(a, b int64) bool { return a <= b })
}

// shared is the greatest common divisor of two numbers that are not both nought.
func shared(a, b int64) int64 {
	for b != 0 {
		a, b = b, a%b
	}
	return max(a, -a)
}
