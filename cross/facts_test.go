package cross_test

import (
	"math"
	"math/big"
	"slices"

	"merestone/api"
	"merestone/point"
)

// most is the greatest coordinate of a node.
const most = 1 << 26

// piece is a segment by its coordinates.
func piece(ax, ay, bx, by int64) api.Seg {
	return api.Seg{A: api.Node{X: ax, Y: ay}, B: api.Node{X: bx, Y: by}}
}

// turned is the segment with its ends changed.
func turned(s api.Seg) api.Seg {
	return api.Seg{A: s.B, B: s.A}
}

// at is the point of a text.
func at(text string) api.Point {
	p, e := point.Parse(text)
	if e != api.OK {
		panic(text)
	}
	return p
}

// spot is a point, as big has it.
type spot struct{ x, y *big.Rat }

// point is the point there.
func (p spot) point() api.Point {
	return at(p.x.RatString() + " " + p.y.RatString())
}

// along is the spot that is part times as far from A as B is.
func along(s api.Seg, part *big.Rat) spot {
	far := func(a, b int64) *big.Rat {
		d := new(big.Rat).SetInt64(b - a)
		return d.Add(d.Mul(d, part), new(big.Rat).SetInt64(a))
	}
	return spot{x: far(s.A.X, s.B.X), y: far(s.A.Y, s.B.Y)}
}

// order is that of points.
func order(p, q spot) int {
	if c := p.x.Cmp(q.x); c != 0 {
		return c
	}
	return p.y.Cmp(q.y)
}

// met is in what both meet, by how far along s that is: nothing, one spot, or the two ends of a piece.
func met(s, t api.Seg) []spot {
	dx, dy := s.B.X-s.A.X, s.B.Y-s.A.Y
	ex, ey := t.B.X-t.A.X, t.B.Y-t.A.Y
	wx, wy := t.A.X-s.A.X, t.A.Y-s.A.Y
	nought, one := new(big.Rat), big.NewRat(1, 1)
	within := func(part *big.Rat) bool { return part.Sign() >= 0 && part.Cmp(one) <= 0 }
	if both := dx*ey - dy*ex; both != 0 {
		own, other := big.NewRat(wx*ey-wy*ex, both), big.NewRat(wx*dy-wy*dx, both)
		if within(own) && within(other) {
			return []spot{along(s, own)}
		}
		return nil
	}
	if wx*dy != wy*dx {
		return nil
	}
	part := func(n api.Node) *big.Rat {
		if dx != 0 {
			return big.NewRat(n.X-s.A.X, dx)
		}
		return big.NewRat(n.Y-s.A.Y, dy)
	}
	compare := func(x, y *big.Rat) int { return x.Cmp(y) }
	low := slices.MaxFunc([]*big.Rat{nought, slices.MinFunc([]*big.Rat{part(t.A), part(t.B)}, compare)}, compare)
	high := slices.MinFunc([]*big.Rat{one, slices.MaxFunc([]*big.Rat{part(t.A), part(t.B)}, compare)}, compare)
	switch low.Cmp(high) {
	case 1:
		return nil
	case 0:
		return []spot{along(s, low)}
	}
	ends := []spot{along(s, low), along(s, high)}
	slices.SortFunc(ends, order)
	return ends
}

// told is how these facts are to be told.
func told(met []spot) api.Meet {
	switch len(met) {
	case 0:
		return api.Meet{}
	case 1:
		return api.Meet{Kind: api.MeetPoint, P: met[0].point(), Q: met[0].point()}
	}
	return api.Meet{Kind: api.MeetPiece, P: met[0].point(), Q: met[1].point()}
}

// ends are both ends of a segment.
func ends(s api.Seg) []spot {
	return []spot{along(s, new(big.Rat)), along(s, big.NewRat(1, 1))}
}

// points are those of s, of the others.
func points(s api.Seg, l []api.Seg) []api.Point {
	all := ends(s)
	for _, t := range l {
		all = append(all, met(s, t)...)
	}
	slices.SortFunc(all, order)
	all = slices.CompactFunc(all, func(p, q spot) bool { return order(p, q) == 0 })
	var told []api.Point
	for _, p := range all {
		told = append(told, p.point())
	}
	return told
}

// segments are all such between nodes of which many are of one line, near one another and at the bound.
func segments() []api.Seg {
	var nodes []api.Node
	for _, c := range [][2]int64{{0, 0}, {1, 0}, {2, 0}, {3, 0}, {0, 1}, {0, 2}, {0, 3}, {1, 1}, {2, 2}, {3, 3}, {2, 1},
		{-most, -most}, {most, most}, {most, -most}, {-most, most}, {most, most - 1}, {1 - most, -most}, {0, most}} {
		nodes = append(nodes, api.Node{X: c[0], Y: c[1]})
	}
	var l []api.Seg
	for _, a := range nodes {
		for _, b := range nodes {
			if a != b {
				l = append(l, api.Seg{A: a, B: b})
			}
		}
	}
	return l
}

// pairs hands over each pair of these segments.
func pairs(do func(s, t api.Seg)) {
	all := segments()
	for _, s := range all {
		for _, t := range all {
			do(s, t)
		}
	}
}

// lists hands over segments with lists of others, of all lengths below many, the same at each run; in some of them
// the segment itself stands, in others one that stands there already.
func lists(many int, do func(s api.Seg, l []api.Seg)) {
	all := segments()
	at := uint64(88172645463325252)
	next := func() api.Seg {
		at ^= at << 13
		at ^= at >> 7
		at ^= at << 17
		return all[at%uint64(len(all))]
	}
	for n := range 25 * many {
		s := next()
		var l []api.Seg
		for range n % many {
			l = append(l, next())
		}
		switch {
		case n%7 == 0:
			l = append(l, s)
		case n%7 == 1:
			l = append(l, turned(s))
		case n%7 == 2 && len(l) > 0:
			l = append(l, l[0], turned(l[len(l)-1]))
		}
		do(s, l)
	}
}

// wrong are segments that may not be: from a node to itself, and with ends that may not be.
func wrong() []api.Seg {
	l := []api.Seg{{}, piece(1, 1, 1, 1), piece(most, -most, most, -most)}
	for _, c := range []int64{most + 1, -most - 1, 1 << 27, 1 << 32, -1 << 32, math.MaxInt64, math.MinInt64, math.MinInt64 + 1} {
		l = append(l, piece(c, 0, 1, 1), piece(0, c, 1, 1), piece(0, 0, c, 1), piece(0, 0, 1, c), piece(c, c, c, c), piece(c, 0, -c, 0))
	}
	return l
}
