package ring

import (
	"cmp"
	"iter"
	"slices"

	"merestone/api"
	"merestone/level"
	"merestone/point"
	"merestone/ratio"
)

// fewest is how many corners a ring has at least.
const fewest = 3

// Corners are nodes, each followed by the next one, the last one by the first.
type corners []api.Node

// A ring is one under way: its corners, with the double area that they make.
type ring struct {
	corners
	double int64
}

// from is the ring of these corners, which may have to be simple. It keeps them, and changes nothing in them.
func from(l corners, simple bool) (ring, api.Errno) {
	why := api.ErrArg
	if some(slices.Values(l), func(n api.Node) bool { return point.Check(n) != api.OK }) {
		goto wrong
	}
	why = api.ErrLong
	if len(l) < fewest || len(l) > api.MaxCorners {
		goto wrong
	}
	why = api.ErrSimple
	if simple && !l.simple() {
		goto wrong
	}
	return ring{corners: l, double: l.area()}, api.OK
wrong:
	return ring{}, why
}

// edge is the one from a corner, which may be counted on beyond the last one.
func (c corners) edge(i int) api.Seg {
	return api.Seg{A: c[i%len(c)], B: c[(i+1)%len(c)]}
}

// edges goes over the edges, in order.
func (c corners) edges() iter.Seq[api.Seg] {
	return func(yield func(api.Seg) bool) {
		for i := range c {
			if !yield(c.edge(i)) {
				return
			}
		}
	}
}

// area is the double area. Of each edge that is at most 2^53, of all at most 2^62, so a word is enough.
func (c corners) area() int64 {
	sum := int64(0)
	for s := range c.edges() {
		sum += s.A.X*s.B.Y - s.A.Y*s.B.X
	}
	return sum
}

// simple tells if no corner follows itself, edges that follow one another meet in their common corner alone,
// and others meet in nothing.
func (c corners) simple() bool {
	return !some(c.edges(), isStill) &&
		!some(c.neighbours(), func(p pair) bool { return p.meet() == api.MeetPiece }) &&
		!some(c.strangers(), func(p pair) bool { return p.meet() != api.MeetNone })
}

// isStill tells if both ends of an edge are the same.
func isStill(s api.Seg) bool {
	return s.A == s.B
}

// where tells where p is: outside, till an odd number of edges is found that it is below. An edge does not count at
// its greatest X: so where the ring goes on past a corner, one of both does, and what is upright does not at all.
func (r ring) where(p api.Point) int {
	at := -1
edges:
	for s := range r.edges() {
		side, e := level.Above(s, p)
		switch {
		case e != api.OK: // it does not span p's X, or both its ends are the same
		case side == 0:
			at = 0
			break edges
		case side < 0 && p.X != ratio.Of(max(s.A.X, s.B.X)):
			at = -at
		}
	}
	return at
}

// laid is its corners against the clock, from the first one by the order of points on.
func (r ring) laid() []api.Node {
	l := slices.Clone(r.corners)
	if r.double < 0 {
		slices.Reverse(l)
	}
	at := slices.Index(l, slices.MinFunc(l, order))
	return slices.Concat(l[at:], l[:at])
}

// order is that of points.
func order(a, b api.Node) int {
	return cmp.Or(cmp.Compare(a.X, b.X), cmp.Compare(a.Y, b.Y))
}
