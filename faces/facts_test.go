package faces_test

import (
	"math"
	"math/big"
	"slices"
	"testing"

	"merestone/api"
	"merestone/dcel"
	"merestone/limb"
	"merestone/point"
	"merestone/ratio"
	"merestone/seg"
	"merestone/split"
)

// most is the greatest coordinate of a node.
const most = 1 << 26

// curve is a curve by its object, and its segment's coordinates.
func curve(id, ax, ay, bx, by int64) api.Curve {
	return api.Curve{ID: id, Seg: api.Seg{A: api.Node{X: ax, Y: ay}, B: api.Node{X: bx, Y: by}}}
}

// along is curves from each node to the next one, and from the last one to the first, by coordinates.
func along(id int64, at ...[2]int64) []api.Curve {
	var l []api.Curve
	for i, a := range at {
		b := at[(i+1)%len(at)]
		l = append(l, curve(id, a[0], a[1], b[0], b[1]))
	}
	return l
}

// square is one of so many on each side, from so far on.
func square(id, x, y, side int64) []api.Curve {
	return along(id, [2]int64{x, y}, [2]int64{x + side, y}, [2]int64{x + side, y + side}, [2]int64{x, y + side})
}

// planned is the plan of curves that may be, and its mesh.
func planned(t *testing.T, l ...api.Curve) (api.Plan, api.Mesh) {
	t.Helper()
	p, e := split.Split(l...)
	if e != api.OK {
		t.Fatal(l, e)
	}
	return p, dcel.Build(p)
}

// dice tells numbers below n that look like any, the same at each run.
func dice() func(n int) int {
	state := uint32(2463534242)
	return func(n int) int {
		state ^= state << 13
		state ^= state >> 17
		state ^= state << 5
		return int(state % uint32(n))
	}
}

// figure is the curves of some square, diamond, triangle or segment: small ones, and in a wide one such as reach
// the bound.
func figure(below func(int) int, wide bool) []api.Curve {
	id := int64(1 + below(5))
	x, y, size := int64(below(30)-15), int64(below(30)-15), int64(1+below(12))
	if wide && below(3) == 0 {
		size = most - 99 - size
	}
	switch below(5) {
	case 0:
		return square(id, x-size/2, y-size/2, size)
	case 1:
		return along(id, [2]int64{x - size, y}, [2]int64{x, y - size}, [2]int64{x + size, y}, [2]int64{x, y + size})
	case 2:
		return along(id, [2]int64{x - size, y - 1}, [2]int64{x + size, y}, [2]int64{x + 1, y + size})
	case 3:
		return []api.Curve{curve(id, x, y, x-int64(below(3)), y+size)}
	}
	return []api.Curve{curve(id, x, y, x+size, y+int64(below(7)-3))}
}

// lists hands over lists of curves, of up to so many figures, the same at each run: many of them are within others,
// others cross, or hang together.
func lists(many int, do func(l []api.Curve)) {
	below := dice()
	for n := range 30 * many {
		var l []api.Curve
		for range n % many {
			l = append(l, figure(below, n%4 == 0)...)
		}
		do(l)
	}
}

// changed is curves of which each end is another node; false, if some may not be there.
func changed(l []api.Curve, node func(api.Node) api.Node) ([]api.Curve, bool) {
	var others []api.Curve
	for _, c := range l {
		c.Seg = api.Seg{A: node(c.Seg.A), B: node(c.Seg.B)}
		if seg.Check(c.Seg) != api.OK {
			return nil, false
		}
		others = append(others, c)
	}
	return others, true
}

// spot is the point of a text.
func spot(text string) api.Point {
	p, e := point.Parse(text)
	if e != api.OK {
		panic(text)
	}
	return p
}

// fraction is a Rat, as math/big has it.
func fraction(r api.Rat) *big.Rat {
	s, e := ratio.Text(r)
	x, ok := new(big.Rat).SetString(s)
	if e != api.OK || !ok {
		panic(s)
	}
	return x
}

// A pair is a point, as math/big has it.
type pair struct{ x, y *big.Rat }

// pairs is the plan's points.
func pairs(p api.Plan) []pair {
	var l []pair
	for _, at := range p.Points {
		l = append(l, pair{fraction(at.X), fraction(at.Y)})
	}
	return l
}

// slope is how much the line through two points rises.
func slope(a, b pair) *big.Rat {
	up := new(big.Rat).Sub(b.y, a.y)
	return up.Quo(up, new(big.Rat).Sub(b.x, a.x))
}

// height is how high the line through two points is at x.
func height(a, b pair, x *big.Rat) *big.Rat {
	y := new(big.Rat).Sub(x, b.x)
	return y.Add(y.Mul(y, slope(a, b)), b.y)
}

// lower is the places of all edges that, seen from a point's left, are under it.
func lower(p api.Plan, l []pair, at pair) []int {
	var below []int
	for k, e := range p.Edges {
		a, b := l[e.A], l[e.B]
		if a.x.Cmp(at.x) < 0 && b.x.Cmp(at.x) >= 0 && height(a, b, at.x).Cmp(at.y) < 0 {
			below = append(below, k)
		}
	}
	return below
}

// highest is the edge under a point by plain facts: none of those that are under it is higher, or as high and
// less steep.
func highest(p api.Plan, l []pair, at pair) (int, bool) {
	below := lower(p, l, at)
	for _, k := range below {
		a, b := l[p.Edges[k].A], l[p.Edges[k].B]
		if !slices.ContainsFunc(below, func(o int) bool {
			c, d := l[p.Edges[o].A], l[p.Edges[o].B]
			by := height(c, d, at.x).Cmp(height(a, b, at.x))
			return by > 0 || by == 0 && slope(c, d).Cmp(slope(a, b)) < 0
		}) {
			return k, true
		}
	}
	return 0, false
}

// area is twice what a cycle goes round against the clock, less what it goes round with it.
func area(m api.Mesh, l []pair, c int) *big.Rat {
	sum := new(big.Rat)
	for h, own := range m.Cycle {
		if own == c {
			a, b := l[m.From[h]], l[m.From[m.Next[h]]]
			left := new(big.Rat).Mul(a.x, b.y)
			sum.Add(sum, left.Sub(left, new(big.Rat).Mul(a.y, b.x)))
		}
	}
	return sum
}

// times is how often each cycle goes round a point, none of whose edges goes through it: those under it that go to
// the right, less those that go to the left.
func times(p api.Plan, m api.Mesh, l []pair, at pair) []int {
	often := make([]int, len(m.Outside))
	for _, k := range lower(p, l, at) {
		often[m.Cycle[2*k]]++
		often[m.Cycle[2*k+1]]--
	}
	return often
}

// first is the least of a cycle's points.
func first(m api.Mesh, l []pair, c int) pair {
	var least *pair
	for h, own := range m.Cycle {
		at := l[m.From[h]]
		if own == c && (least == nil || at.x.Cmp(least.x) < 0 || at.x.Cmp(least.x) == 0 && at.y.Cmp(least.y) < 0) {
			least = &at
		}
	}
	return *least
}

// facesOf is the faces of a plan and its mesh by plain facts: a hole is in the face of the least border that goes
// round it.
func facesOf(p api.Plan, m api.Mesh) api.Faces {
	f := api.Faces{Border: []int{-1}, Of: make([]int, len(m.Outside))}
	for c, outside := range m.Outside {
		if !outside {
			f.Of[c] = len(f.Border)
			f.Border = append(f.Border, c)
		}
	}
	f.Holes = make([][]int, len(f.Border))
	l := pairs(p)
	for c, outside := range m.Outside {
		if !outside {
			continue
		}
		in := 0
		for d, often := range times(p, m, l, first(m, l, c)) {
			if often > 0 && !m.Outside[d] && (in == 0 || area(m, l, d).Cmp(area(m, l, f.Border[in])) < 0) {
				in = f.Of[d]
			}
		}
		f.Of[c] = in
		f.Holes[in] = append(f.Holes[in], c)
	}
	return f
}

// same tells if two faces are the same in all.
func same(a, b api.Faces) bool {
	return slices.Equal(a.Border, b.Border) && slices.Equal(a.Of, b.Of) && slices.EqualFunc(a.Holes, b.Holes, slices.Equal)
}

// copied is faces of their own memory.
func copied(f api.Faces) api.Faces {
	c := api.Faces{Border: slices.Clone(f.Border), Of: slices.Clone(f.Of)}
	for _, l := range f.Holes {
		c.Holes = append(c.Holes, slices.Clone(l))
	}
	return c
}

// sameMesh tells if two meshes are the same in all.
func sameMesh(a, b api.Mesh) bool {
	return slices.Equal(a.From, b.From) && slices.Equal(a.Next, b.Next) && slices.Equal(a.Cycle, b.Cycle) && slices.Equal(a.Outside, b.Outside)
}

// strange are numbers that no half edge, no face and no point of so many has.
func strange(many int) []int {
	return []int{-1, -2, many, many + 1, 2*many + 2, 1 << 32, -1 << 32, math.MaxInt, math.MaxInt - 1, math.MinInt, math.MinInt + 1}
}

// wrongPoints are such as may not be.
func wrongPoints() []api.Point {
	full := [4]uint64{math.MaxUint64, math.MaxUint64, math.MaxUint64, math.MaxUint64}
	var l []api.Point
	for _, x := range []api.Rat{
		{}, {N: limb.Of(1)}, {N: limb.Of(0), D: limb.Of(2)}, {N: limb.Of(2), D: limb.Of(4)}, {N: limb.Of(1), D: limb.Of(-2)}, {N: limb.Of(-1), D: limb.Of(-1)},
		{N: api.Int{Neg: true}, D: limb.Of(1)}, {N: limb.Of(1), D: api.Int{Neg: true}}, {N: api.Int{Mag: full}, D: limb.Of(1)}, {N: limb.Of(1), D: api.Int{Mag: full}},
		{N: api.Int{Mag: [4]uint64{0, 1 << 32}}, D: limb.Of(1)}, {N: api.Int{Neg: true, Mag: [4]uint64{0, 1 << 32}}, D: limb.Of(1)}, // of an N that is too great
		{N: limb.Of(1), D: api.Int{Mag: [4]uint64{0, 1}}}, // of such a D
	} {
		l = append(l, api.Point{X: x, Y: ratio.Of(1)}, api.Point{X: ratio.Of(1), Y: x}, api.Point{X: x, Y: x})
	}
	return l
}
