package split_test

import (
	"cmp"
	"fmt"
	"math"
	"math/big"
	"slices"

	"merestone/api"
	"merestone/point"
)

// most is the greatest coordinate of a node.
const most = 1 << 26

// greatest is the greatest number of an object.
const greatest = 1<<31 - 1

// curve is a curve by its object, and its segment's coordinates.
func curve(id, ax, ay, bx, by int64) api.Curve {
	return api.Curve{ID: id, Seg: api.Seg{A: api.Node{X: ax, Y: ay}, B: api.Node{X: bx, Y: by}}}
}

// at is the point of a text.
func at(text string) api.Point {
	p, e := point.Parse(text)
	if e != api.OK {
		panic(text)
	}
	return p
}

// text is that of a point.
func text(p api.Point) string {
	s, e := point.Text(p)
	if e != api.OK {
		panic(e)
	}
	return s
}

// told is a plan to be read: its points, and its edges with their ways and objects.
func told(p api.Plan) string {
	var points, edges []string
	for _, at := range p.Points {
		points = append(points, text(at))
	}
	for _, e := range p.Edges {
		edges = append(edges, fmt.Sprintf("%d-%d (%d %d) %d", e.A, e.B, e.Way.X, e.Way.Y, e.IDs))
	}
	return fmt.Sprintf("%q %q", points, edges)
}

// spot is a point, as big has it.
type spot struct{ x, y *big.Rat }

// spotOf is the spot of a node.
func spotOf(n api.Node) spot {
	return spot{x: new(big.Rat).SetInt64(n.X), y: new(big.Rat).SetInt64(n.Y)}
}

// spotAt is the spot of a point.
func spotAt(p api.Point) spot {
	var x, y string
	if _, err := fmt.Sscan(text(p), &x, &y); err != nil {
		panic(err)
	}
	one, ok := new(big.Rat).SetString(x)
	other, both := new(big.Rat).SetString(y)
	if !ok || !both {
		panic(text(p))
	}
	return spot{x: one, y: other}
}

// point is the point there.
func (p spot) point() api.Point {
	return at(p.x.RatString() + " " + p.y.RatString())
}

// order is that of points.
func order(p, q spot) int {
	return cmp.Or(p.x.Cmp(q.x), p.y.Cmp(q.y))
}

// turn tells on which side of the way from p to q r is.
func turn(p, q, r spot) int {
	minus := func(x, y *big.Rat) *big.Rat { return new(big.Rat).Sub(x, y) }
	left, right := minus(q.x, p.x), minus(q.y, p.y)
	left.Mul(left, minus(r.y, p.y))
	right.Mul(right, minus(r.x, p.x))
	return left.Cmp(right)
}

// isOn tells if r is on the line from p to q, not ahead of both nor behind both.
func isOn(p, q, r spot) bool {
	return turn(p, q, r) == 0 && order(p, r)*order(q, r) <= 0
}

// ends are those of a curve.
func ends(c api.Curve) (a, b spot) {
	return spotOf(c.Seg.A), spotOf(c.Seg.B)
}

// steps are how far it is from A to B.
func steps(c api.Curve) (x, y int64) {
	return c.Seg.B.X - c.Seg.A.X, c.Seg.B.Y - c.Seg.A.Y
}

// crossing is the spot where two lines are both, unless they go the same way.
func crossing(c, d api.Curve) (spot, bool) {
	cx, cy := steps(c)
	dx, dy := steps(d)
	both := cx*dy - cy*dx
	if both == 0 {
		return spot{}, false
	}
	part := big.NewRat((d.Seg.A.X-c.Seg.A.X)*dy-(d.Seg.A.Y-c.Seg.A.Y)*dx, both)
	far := func(from, steps int64) *big.Rat {
		x := new(big.Rat).SetInt64(steps)
		return x.Add(x.Mul(x, part), new(big.Rat).SetInt64(from))
	}
	return spot{x: far(c.Seg.A.X, cx), y: far(c.Seg.A.Y, cy)}, true
}

// spots are those where curves end, and where two of them cross or touch, in order, each once.
func spots(l []api.Curve) []spot {
	var all []spot
	for i, c := range l {
		a, b := ends(c)
		all = append(all, a, b)
		for _, d := range l[:i] {
			f, g := ends(d)
			if p, is := crossing(c, d); is && isOn(a, b, p) && isOn(f, g, p) {
				all = append(all, p)
			}
		}
	}
	slices.SortFunc(all, order)
	return slices.CompactFunc(all, func(p, q spot) bool { return order(p, q) == 0 })
}

// wayOf is the way of a curve from the end that is ahead, without a common divisor.
func wayOf(c api.Curve) api.Way {
	x, y := steps(c)
	if x < 0 || x == 0 && y < 0 {
		x, y = -x, -y
	}
	shared := new(big.Int).GCD(nil, nil, big.NewInt(x), new(big.Int).Abs(big.NewInt(y))).Int64()
	return api.Way{X: x / shared, Y: y / shared}
}

// planOf is the plan of curves by plain facts.
func planOf(l []api.Curve) api.Plan {
	all := spots(l)
	var p api.Plan
	for _, one := range all {
		p.Points = append(p.Points, one.point())
	}
	for _, c := range l {
		a, b := ends(c)
		last := -1
		for i, one := range all {
			if !isOn(a, b, one) {
				continue
			}
			if last >= 0 {
				p.Edges = append(p.Edges, api.Edge{A: last, B: i, Way: wayOf(c), IDs: []int64{c.ID}})
			}
			last = i
		}
	}
	return api.Plan{Points: p.Points, Edges: joined(p.Edges)}
}

// joined is edges in order, of which those with the same ends are one, with the objects of all.
func joined(l []api.Edge) []api.Edge {
	slices.SortFunc(l, func(x, y api.Edge) int {
		return cmp.Or(cmp.Compare(x.A, y.A), cmp.Compare(x.B, y.B), cmp.Compare(x.IDs[0], y.IDs[0]))
	})
	var once []api.Edge
	for _, e := range l {
		if last := len(once) - 1; last >= 0 && once[last].A == e.A && once[last].B == e.B {
			once[last].IDs = append(once[last].IDs, e.IDs...)
			continue
		}
		once = append(once, e)
	}
	return once
}

// away is the way of an edge from one of its ends.
func away(e api.Edge, i int) api.Way {
	if e.A == i {
		return e.Way
	}
	return api.Way{X: -e.Way.X, Y: -e.Way.Y}
}

// half tells 0 of ways from the way to the right on up to, not with, that to the left, else 1.
func half(w api.Way) int {
	if w.Y > 0 || w.Y == 0 && w.X > 0 {
		return 0
	}
	return 1
}

// isAhead tells if a comes ahead of b, from the way to the right on against the clock.
func isAhead(a, b api.Way) bool {
	if half(a) != half(b) {
		return half(a) < half(b)
	}
	return a.X*b.Y > a.Y*b.X
}

// partsOf is the parts of a plan, by going from place to place till none is new.
func partsOf(p api.Plan) [][]int {
	var parts [][]int
	seen := map[int]bool{}
	for i := range p.Points {
		if seen[i] {
			continue
		}
		seen[i] = true
		part := []int{i}
		for at := 0; at < len(part); at++ {
			for _, e := range p.Edges {
				for _, to := range [][2]int{{e.A, e.B}, {e.B, e.A}} {
					if to[0] == part[at] && !seen[to[1]] {
						seen[to[1]] = true
						part = append(part, to[1])
					}
				}
			}
		}
		slices.Sort(part)
		parts = append(parts, part)
	}
	return parts
}

// nodes are such of which many are of one line, near one another and at the bound.
func nodes() []api.Node {
	var l []api.Node
	for _, c := range [][2]int64{{0, 0}, {1, 0}, {2, 0}, {3, 0}, {0, 1}, {0, 2}, {0, 3}, {1, 1}, {2, 2}, {3, 3}, {2, 1}, {1, 3}, {5, 4},
		{-most, -most}, {most, most}, {most, -most}, {-most, most}, {most, most - 1}, {1 - most, -most}, {0, most}} {
		l = append(l, api.Node{X: c[0], Y: c[1]})
	}
	return l
}

// lists hands over curves between these nodes, lists of all lengths below many, the same at each run: some with all
// nodes, some without those at the bound; some with curves that are there twice, or turned.
func lists(many int, do func(l []api.Curve)) {
	seed := uint64(88172645463325252)
	next := func(below int) int {
		seed ^= seed << 13
		seed ^= seed >> 7
		seed ^= seed << 17
		return int(seed % uint64(below))
	}
	ids := []int64{1, 2, 3, 7, greatest - 1, greatest}
	for n := range 20 * many {
		from := nodes()
		if n%3 > 0 {
			from = from[:13]
		}
		var l []api.Curve
		for range n % many {
			a := next(len(from))
			b := (a + 1 + next(len(from)-1)) % len(from)
			l = append(l, api.Curve{ID: ids[next(len(ids))], Seg: api.Seg{A: from[a], B: from[b]}})
		}
		if n%5 == 0 && len(l) > 0 {
			twice := l[0]
			turned := api.Curve{ID: ids[next(len(ids))], Seg: api.Seg{A: twice.Seg.B, B: twice.Seg.A}}
			l = append(l, twice, turned)
		}
		do(l)
	}
}

// wrong are curves that may not be.
func wrong() []api.Curve {
	var l []api.Curve
	for _, id := range []int64{0, -1, greatest + 1, 1 << 32, 1<<32 + 1, math.MaxInt64, math.MinInt64} {
		l = append(l, curve(id, 0, 0, 1, 1))
	}
	l = append(l, api.Curve{}, api.Curve{ID: 1}, curve(1, 1, 1, 1, 1), curve(greatest, most, -most, most, -most))
	for _, c := range []int64{most + 1, -most - 1, 1 << 27, 1 << 32, -1 << 32, math.MaxInt64, math.MinInt64, math.MinInt64 + 1} {
		l = append(l, curve(1, c, 0, 1, 1), curve(1, 0, c, 1, 1), curve(1, 0, 0, c, 1), curve(1, 0, 0, 1, c), curve(1, c, 0, -c, 0))
	}
	return l
}
