package cross

import (
	"merestone/api"
	"merestone/limb"
	"merestone/point"
	"merestone/quit"
	"merestone/ratio"
	"merestone/seg"
)

// A line is a segment under way, laid.
type line struct {
	api.Seg
}

// from is the line of a segment; one that may not be is given up.
func from(s api.Seg) line {
	return line{Seg: quit.Must(seg.Laid(s))}
}

// meet is in what both meet.
func (l line) meet(m line) api.Meet {
	own, other := l.gapsTo(m), m.gapsTo(l)
	switch {
	case own == gaps{}:
		return l.shared(m)
	case own.aside() || other.aside():
		return api.Meet{}
	case own.a == 0:
		return touch(dot(l.A))
	case own.b == 0:
		return touch(dot(l.B))
	}
	return touch(l.parted(own))
}

// crosses tells if both meet in one point that is an end of neither.
func (l line) crosses(m line) bool {
	return l.gapsTo(m).across() && m.gapsTo(l).across()
}

// shared is in what both meet, where they are of one line: in what is from the later one of both A on
// to the earlier one of both B.
func (l line) shared(m line) api.Meet {
	p := first(l.A, m.A, func(a, b api.Node) bool { return isAhead(b, a) })
	q := first(l.B, m.B, isAhead)
	switch {
	case p == q:
		return touch(dot(p))
	case isAhead(p, q):
		return api.Meet{Kind: api.MeetPiece, P: dot(p), Q: dot(q)}
	}
	return api.Meet{}
}

// points is its ends, and all points and ends of pieces in which it meets one of the others, in order, each once.
func (l line) points(others []api.Seg) []api.Point {
	all := []api.Point{dot(l.A), dot(l.B)}
	for _, s := range others {
		switch m := l.meet(from(s)); m.Kind {
		case api.MeetPiece:
			all = append(all, m.Q)
			fallthrough
		case api.MeetPoint:
			all = append(all, m.P)
		}
	}
	return quit.Must(point.Sort(all...))
}

// parted is the point of it that is on a line of which its ends are so far off, not both nought nor on one side:
// that parts the way from A to B as both are far off.
func (l line) parted(off gaps) api.Point {
	whole := limb.Of(off.a - off.b)
	at := func(a, b int64) api.Rat {
		return quit.Must(ratio.Make(quit.Must(limb.Sub(times(off.a, b), times(off.b, a))), whole))
	}
	return api.Point{X: at(l.A.X, l.B.X), Y: at(l.A.Y, l.B.Y)}
}

// times is a product that may be greater than a word.
func times(a, b int64) api.Int {
	return quit.Must(limb.Mul(limb.Of(a), limb.Of(b)))
}

// touch is that they meet in one point.
func touch(p api.Point) api.Meet {
	return api.Meet{Kind: api.MeetPoint, P: p, Q: p}
}

// dot is the point of a node.
func dot(n api.Node) api.Point {
	return quit.Must(point.Of(n))
}

// first is the one of both that is ahead.
func first[T any](a, b T, ahead func(a, b T) bool) T {
	if ahead(b, a) {
		return b
	}
	return a
}

// isAhead tells if a is ahead of b by the order of points.
func isAhead(a, b api.Node) bool {
	return a.X < b.X || a.X == b.X && a.Y < b.Y
}
