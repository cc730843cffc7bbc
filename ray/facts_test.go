package ray_test

import (
	"math"
	"math/big"
	"slices"
	"testing"

	"merestone/api"
	"merestone/limb"
	"merestone/point"
	"merestone/ratio"
	"merestone/seg"
	"merestone/split"
)

// most is the greatest coordinate of a node.
const most = 1 << 26

// far is the greatest number of a point, little the least one above nought.
const (
	far    = "79228162514264337593543950335"
	little = "1/18446744073709551615"
)

// line is a curve of the object 1, by its segment's coordinates.
func line(ax, ay, bx, by int64) api.Curve {
	return api.Curve{ID: 1, Seg: api.Seg{A: api.Node{X: ax, Y: ay}, B: api.Node{X: bx, Y: by}}}
}

// box is a square of so many on each side, from so far on.
func box(x, y, side int64) []api.Curve {
	return []api.Curve{line(x, y, x+side, y), line(x+side, y, x+side, y+side), line(x+side, y+side, x, y+side), line(x, y+side, x, y)}
}

// planned is the plan of curves that may be.
func planned(t *testing.T, l ...api.Curve) api.Plan {
	t.Helper()
	p, e := split.Split(l...)
	if e != api.OK {
		t.Fatal(l, e)
	}
	return p
}

// dice tells numbers below n that look like any, the same at each run.
func dice(state uint64) func(n int) int {
	return func(n int) int {
		state = state*6364136223846793005 + 1442695040888963407
		return int(state >> 33 % uint64(n))
	}
}

// drawings hands over some curves again and again, the same at each run: boxes, long and short segments, many of them
// upright, on common lines, or through the same nodes; some reach the bound.
func drawings(do func(l []api.Curve)) {
	below := dice(41)
	for n := range 90 {
		var l []api.Curve
		reach := 1 + below(12)
		node := func() int64 { return int64(below(2*reach+1) - reach) }
		for len(l) < n%15 {
			c := line(node(), node(), node(), node())
			switch below(8) {
			case 0:
				l = append(l, box(node(), node(), 1+int64(below(9)))...)
			case 1:
				c.Seg.B.X = c.Seg.A.X
			case 2:
				c.Seg.A.X, c.Seg.B.X = -most, most
			case 3:
				c.Seg.A.Y, c.Seg.B.Y = most-c.Seg.A.X, -most
			}
			if seg.Check(c.Seg) == api.OK {
				l = append(l, c)
			}
		}
		do(l)
	}
}

// spot is the point of a text.
func spot(text string) api.Point {
	p, e := point.Parse(text)
	if e != api.OK {
		panic(text)
	}
	return p
}

// number is the Rat of a text.
func number(text string) api.Rat {
	x, e := ratio.Parse(text)
	if e != api.OK {
		panic(text)
	}
	return x
}

// value is a Rat's, as math/big has it.
func value(x api.Rat) *big.Rat {
	s, e := ratio.Text(x)
	v, ok := new(big.Rat).SetString(s)
	if e != api.OK || !ok {
		panic(s)
	}
	return v
}

// A corner is a point, as math/big has it.
type corner struct{ x, y *big.Rat }

// corners is the plan's points.
func corners(p api.Plan) []corner {
	var l []corner
	for _, at := range p.Points {
		l = append(l, corner{value(at.X), value(at.Y)})
	}
	return l
}

// height is how high the line through two corners is at x, by the parts in which x parts what is between them.
func height(a, b corner, x *big.Rat) *big.Rat {
	fromA, fromB := new(big.Rat).Sub(x, a.x), new(big.Rat).Sub(b.x, x)
	sum := new(big.Rat).Add(fromA.Mul(fromA, b.y), fromB.Mul(fromB, a.y))
	return sum.Quo(sum, new(big.Rat).Sub(b.x, a.x))
}

// A found is a hit, as math/big has it.
type found struct {
	kind api.HitKind
	at   int
	y    *big.Rat
}

// columnOf is what rays may hit over x by plain facts, put in order one by one.
func columnOf(p api.Plan, all []corner, x *big.Rat) []found {
	var l []found
	put := func(f found) {
		at := 0
		for at < len(l) && l[at].y.Cmp(f.y) < 0 {
			at++
		}
		l = slices.Insert(l, at, f)
	}
	for k, e := range p.Edges {
		if a, b := all[e.A], all[e.B]; a.x.Cmp(x) < 0 && x.Cmp(b.x) < 0 {
			put(found{api.HitEdge, k, height(a, b, x)})
		}
	}
	for i, at := range all {
		if at.x.Cmp(x) == 0 {
			put(found{api.HitPoint, i, at.y})
		}
	}
	return l
}

// downOf and upOf are what rays hit by plain facts; nothing, if they hit nothing.
func downOf(column []found, y *big.Rat) (hit found) {
	for _, f := range column {
		if f.y.Cmp(y) < 0 {
			hit = f
		}
	}
	return hit
}

func upOf(column []found, y *big.Rat) (hit found) {
	for _, f := range column {
		if f.y.Cmp(y) > 0 {
			return f
		}
	}
	return hit
}

// is tells if a hit is the one that was found.
func is(h api.Hit, f found) bool {
	if f.kind == api.HitNone {
		return h == api.Hit{}
	}
	return h.Kind == f.kind && h.At == f.at && ratio.Check(h.Y) == api.OK && value(h.Y).Cmp(f.y) == 0
}

// columns are such x as may be asked of a plan: those of some of its points, close beside them, between them, and
// far from all.
func columns(p api.Plan, below func(int) int) []api.Rat {
	l := []api.Rat{number("0"), number("1/2"), number("-7/3"), number(far), number("-" + far), number(little), number("67108864"), number("-67108864")}
	for range 4 * min(len(p.Points), 3) {
		at := p.Points[below(len(p.Points))]
		other := p.Points[below(len(p.Points))]
		l = append(l, at.X)
		if m, e := point.Mid(at, other); e == api.OK { // else that would be too great for a point
			l = append(l, m.X)
		}
		if beside, e := ratio.Add(at.X, number("1/1099511627776")); e == api.OK && fits(beside) {
			l = append(l, beside)
		}
	}
	return l
}

// fits tells if a point may have this number.
func fits(x api.Rat) bool {
	return point.Right(api.Point{X: x, Y: ratio.Of(0)}) == api.OK
}

// heights are such Y as may be asked over an x: those of what rays hit there, close beside them, between them, and
// far from all. A point may have each.
func heights(column []found) []api.Rat {
	l := []api.Rat{number("0"), number("1/3"), number("-2"), number(far), number("-" + far)}
	beside := big.NewRat(1, 1<<40)
	for i, f := range column {
		next := column[(i+1)%len(column)]
		middle := new(big.Rat).Add(f.y, next.y)
		for _, y := range []*big.Rat{f.y, new(big.Rat).Add(f.y, beside), new(big.Rat).Sub(f.y, beside), middle.Mul(middle, big.NewRat(1, 2))} {
			if y.Num().BitLen() <= 96 && y.Denom().BitLen() <= 64 {
				l = append(l, number(y.RatString()))
			}
		}
	}
	return l
}

// wrongNumbers are such as no point may have.
func wrongNumbers() []api.Rat {
	full := [4]uint64{math.MaxUint64, math.MaxUint64, math.MaxUint64, math.MaxUint64}
	return []api.Rat{
		{}, {N: limb.Of(1)}, {N: limb.Of(0), D: limb.Of(2)}, {N: limb.Of(2), D: limb.Of(4)}, {N: limb.Of(1), D: limb.Of(-2)}, {N: limb.Of(-1), D: limb.Of(-1)},
		{N: api.Int{Neg: true}, D: limb.Of(1)}, {N: limb.Of(1), D: api.Int{Neg: true}}, {N: api.Int{Mag: full}, D: limb.Of(1)}, {N: limb.Of(1), D: api.Int{Mag: full}},
		{N: api.Int{Mag: [4]uint64{0, 1 << 32}}, D: limb.Of(1)}, {N: api.Int{Neg: true, Mag: [4]uint64{0, 1 << 32}}, D: limb.Of(1)}, // of an N that is too great
		{N: limb.Of(1), D: api.Int{Mag: [4]uint64{0, 1}}}, // of such a D
	}
}

// wrongPoints are such as may not be.
func wrongPoints() []api.Point {
	var l []api.Point
	for _, x := range wrongNumbers() {
		l = append(l, api.Point{X: x, Y: ratio.Of(1)}, api.Point{X: ratio.Of(1), Y: x}, api.Point{X: x, Y: x})
	}
	return l
}

// changed is curves of which each end is another node; false, if some may not be there.
func changed(l []api.Curve, node func(api.Node) api.Node) ([]api.Curve, bool) {
	var others []api.Curve
	for _, c := range l {
		c.Seg = api.Seg{A: node(c.Seg.A), B: node(c.Seg.B)}
		if seg.Check(c.Seg) != api.OK {
			return nil, false
		}
		others = append(others, c)
	}
	return others, true
}
