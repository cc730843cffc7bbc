package seg

import (
	"merestone/api"
	"merestone/limb"
	"merestone/point"
	"merestone/quit"
)

// A line is a segment under way: how far to the right of A, and how far up from there, B is.
type line struct {
	api.Seg
	right, up int64
}

// from is the line of a segment.
func from(s api.Seg) line {
	return line{Seg: s, right: s.B.X - s.A.X, up: s.B.Y - s.A.Y}
}

// told is what is asked of a segment's line; of one that may not be, nothing is asked.
func told[T any](s api.Seg, ask func(line) T) (T, api.Errno) {
	return quit.Caught(func() T {
		quit.For(Check(s))
		return ask(from(s))
	})
}

// laid is its segment with A ahead of B: what lies to the left, or straight below, is ahead.
func (l line) laid() api.Seg {
	if l.right < 0 || l.right == 0 && l.up < 0 {
		l.A, l.B = l.B, l.A
	}
	return l.Seg
}

// spans tells if p, which is on the line, is on the segment. It is at one end at most, so it has the same order
// to both just if it is ahead of both, or behind both.
func (l line) spans(p api.Point) bool {
	return order(p, l.A) != order(p, l.B)
}

// order tells -1, 0 or 1: p is ahead of n, there, behind it.
func order(p api.Point, n api.Node) int {
	return quit.Must(point.Cmp(p, quit.Must(point.Of(n))))
}

// turn tells the side of a node. What is multiplied is at most 2^27, so words are enough.
func (l line) turn(n api.Node) int {
	return side(l.right*(n.Y-l.A.Y), l.up*(n.X-l.A.X))
}

// side tells 1, where there is more of left than of right, -1, where there is less, else 0.
func side[N ~int | ~int64](left, right N) int {
	switch {
	case left > right:
		return 1
	case left < right:
		return -1
	}
	return 0
}

// sideOf tells the side of a point. Most points are nodes, which are told much faster. Of others both products are
// taken D of X and D of Y times, so that they are whole; they are below 2^190.
func (l line) sideOf(p api.Point) int {
	if n, whole := point.Grid(p); whole {
		return l.turn(n)
	}
	quit.For(point.Right(p))
	left := quit.Must(limb.Mul(limb.Of(l.right), way(l.A.Y, p.Y), p.X.D))
	right := quit.Must(limb.Mul(limb.Of(l.up), way(l.A.X, p.X), p.Y.D))
	return quit.Must(limb.Cmp(left, right))
}

// way is how far it is from n to x, D of x times.
func way(n int64, x api.Rat) api.Int {
	return quit.Must(limb.Sub(x.N, quit.Must(limb.Mul(limb.Of(n), x.D))))
}
