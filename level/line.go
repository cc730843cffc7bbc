package level

import (
	"merestone/api"
	"merestone/point"
	"merestone/quit"
	"merestone/ratio"
	"merestone/seg"
)

// A line is a segment under way, laid: how far to the right of A, and how far up from there, B is.
type line struct {
	api.Seg
	right, up int64
}

// lines is the lines of segments that have none of these flaws.
func lines(flaws []flaw, segments ...api.Seg) []line {
	l := make([]line, len(segments))
	for i, s := range segments {
		laid, _ := seg.Laid(s) // nought of one that may not be, which is no segment either
		l[i] = line{Seg: laid, right: laid.B.X - laid.A.X, up: laid.B.Y - laid.A.Y}
	}
	find(flaws, l)
	return l
}

// spans tells if x is from A's X to B's.
func (l line) spans(x api.Rat) bool {
	return l.beside(x, func(n api.Node) int64 { return n.X }) == 0
}

// height is the y of its point of that x, which it spans; it is not upright.
func (l line) height(x api.Rat) api.Rat {
	far := quit.Must(ratio.Sub(x, ratio.Of(l.A.X)))
	rise := quit.Must(ratio.Mul(far, l.slope()))
	return quit.Must(ratio.Add(ratio.Of(l.A.Y), rise))
}

// slope is how much it rises on the way to the right; it is not upright.
func (l line) slope() api.Rat {
	return quit.Must(ratio.Div(ratio.Of(l.up), ratio.Of(l.right)))
}

// above tells where a point is whose X it spans. What is above is to the left of a line that goes to the right;
// most points are nodes, for which that is told much faster than by heights.
func (l line) above(p api.Point) int {
	if l.right == 0 {
		return l.beside(p.Y, func(n api.Node) int64 { return n.Y })
	}
	return quit.Must(seg.Side(l.Seg, p))
}

// beside tells 1, if x is greater than this number of both ends, -1, if it is less than both, else 0.
func (l line) beside(x api.Rat, of func(api.Node) int64) int {
	side := 0
	compare := against(x)
ends:
	for n := range seg.Nodes(l.Seg) {
		switch c := compare(of(n)); c {
		case 0, -side:
			side = 0
			break ends
		default:
			side = c
		}
	}
	return side
}

// against is how x compares to whole numbers. Most x are nodes', which are compared much faster.
func against(x api.Rat) func(int64) int {
	if n, whole := point.Grid(api.Point{X: x, Y: ratio.Of(0)}); whole {
		return func(c int64) int { return order(n.X, c) }
	}
	return func(c int64) int { return quit.Must(ratio.Cmp(x, ratio.Of(c))) }
}

// order tells -1, 0 or 1: a is less, the same, greater.
func order[N ~int | ~int64](a, b N) int {
	switch {
	case a < b:
		return -1
	case a > b:
		return 1
	}
	return 0
}
