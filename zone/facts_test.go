package zone_test

import (
	"math"
	"math/big"
	"slices"
	"testing"

	"merestone/api"
	"merestone/check"
	"merestone/limb"
	"merestone/point"
	"merestone/ratio"
	"merestone/seg"
	"merestone/split"
)

// most is the greatest coordinate of a node.
const most = 1 << 26

// far is the greatest number of a point, little the least one above nought.
const (
	far    = "79228162514264337593543950335"
	little = "1/18446744073709551615"
)

// curve is a curve by its object, and its segment's coordinates.
func curve(id, ax, ay, bx, by int64) api.Curve {
	return api.Curve{ID: id, Seg: api.Seg{A: api.Node{X: ax, Y: ay}, B: api.Node{X: bx, Y: by}}}
}

// along is curves from each node to the next one, and from the last one to the first, by coordinates.
func along(id int64, at ...[2]int64) []api.Curve {
	var l []api.Curve
	for i, a := range at {
		b := at[(i+1)%len(at)]
		l = append(l, curve(id, a[0], a[1], b[0], b[1]))
	}
	return l
}

// square is one of so many on each side, from a corner on.
func square(id, x, y, side int64) []api.Curve {
	return along(id, [2]int64{x, y}, [2]int64{x + side, y}, [2]int64{x + side, y + side}, [2]int64{x, y + side})
}

// dice tells numbers below n that look like any, the same at each run.
func dice(state uint64) func(n int) int {
	return func(n int) int {
		state = state*6364136223846793005 + 1442695040888963407
		return int(state >> 33 % uint64(n))
	}
}

// figure is the curves of some square, diamond, triangle or segment: small ones, and in a wide one such as reach the
// bound.
func figure(below func(int) int, wide bool) []api.Curve {
	id := int64(1 + below(5))
	x, y, size := int64(below(20)-10), int64(below(20)-10), int64(1+below(9))
	if wide && below(3) == 0 {
		size = most - 99 - size
	}
	switch below(5) {
	case 0:
		return square(id, x-size/2, y-size/2, size)
	case 1:
		return along(id, [2]int64{x - size, y}, [2]int64{x, y - size}, [2]int64{x + size, y}, [2]int64{x, y + size})
	case 2:
		return along(id, [2]int64{x - size, y - 1}, [2]int64{x + size, y}, [2]int64{x + 1, y + size})
	case 3:
		return []api.Curve{curve(id, x, y, x-int64(below(3)), y+size)}
	}
	return []api.Curve{curve(id, x, y, x+size, y+int64(below(7)-3))}
}

// drawings hands over so many lists of curves, the same at each run: many figures are within others, others cross,
// hang together, or are there twice.
func drawings(many int, do func(l []api.Curve)) {
	below := dice(41)
	for n := range many {
		var l []api.Curve
		for range n % 9 {
			l = append(l, figure(below, n%4 == 0)...)
		}
		if n%7 == 3 {
			l = append(l, l[:len(l)/2]...)
		}
		do(l)
	}
}

// made is the structure of curves that may be.
func made(t *testing.T, l ...api.Curve) api.Structure {
	t.Helper()
	s, e := check.Of(l...)
	if e != api.OK {
		t.Fatal(l, e)
	}
	return s
}

// copied is a structure of its own memory.
func copied(s api.Structure) api.Structure {
	c := api.Structure{
		Plan:  api.Plan{Points: slices.Clone(s.Plan.Points), Edges: slices.Clone(s.Plan.Edges)},
		Mesh:  api.Mesh{From: slices.Clone(s.Mesh.From), Next: slices.Clone(s.Mesh.Next), Cycle: slices.Clone(s.Mesh.Cycle), Outside: slices.Clone(s.Mesh.Outside)},
		Faces: api.Faces{Border: slices.Clone(s.Faces.Border), Of: slices.Clone(s.Faces.Of)},
	}
	for k, e := range c.Plan.Edges {
		c.Plan.Edges[k].IDs = slices.Clone(e.IDs)
	}
	for _, l := range s.Faces.Holes {
		c.Faces.Holes = append(c.Faces.Holes, slices.Clone(l))
	}
	return c
}

// same tells if two structures are the same in all.
func same(a, b api.Structure) bool {
	return split.Same(a.Plan, b.Plan) &&
		slices.Equal(a.Mesh.From, b.Mesh.From) && slices.Equal(a.Mesh.Next, b.Mesh.Next) && slices.Equal(a.Mesh.Cycle, b.Mesh.Cycle) && slices.Equal(a.Mesh.Outside, b.Mesh.Outside) &&
		slices.Equal(a.Faces.Border, b.Faces.Border) && slices.Equal(a.Faces.Of, b.Faces.Of) && slices.EqualFunc(a.Faces.Holes, b.Faces.Holes, slices.Equal)
}

// changed is curves of which each end is another node; false, if some may not be there.
func changed(l []api.Curve, node func(api.Node) api.Node) ([]api.Curve, bool) {
	var others []api.Curve
	for _, c := range l {
		c.Seg = api.Seg{A: node(c.Seg.A), B: node(c.Seg.B)}
		if seg.Check(c.Seg) != api.OK {
			return nil, false
		}
		others = append(others, c)
	}
	return others, true
}

// spot is the point of a text.
func spot(text string) api.Point {
	p, e := point.Parse(text)
	if e != api.OK {
		panic(text)
	}
	return p
}

// value is a Rat's, as math/big has it.
func value(x api.Rat) *big.Rat {
	s, e := ratio.Text(x)
	v, ok := new(big.Rat).SetString(s)
	if e != api.OK || !ok {
		panic(s)
	}
	return v
}

// A pair is a point, as math/big has it.
type pair struct{ x, y *big.Rat }

// pairOf is a point's.
func pairOf(p api.Point) pair {
	return pair{value(p.X), value(p.Y)}
}

// less is a without b.
func less(a, b pair) pair {
	return pair{new(big.Rat).Sub(a.x, b.x), new(big.Rat).Sub(a.y, b.y)}
}

// turn is what the second way is to the left of the first one, were both to leave one point.
func turn(v, w pair) *big.Rat {
	left := new(big.Rat).Mul(v.x, w.y)
	return left.Sub(left, new(big.Rat).Mul(v.y, w.x))
}

// ahead tells how far the second way goes along the first one.
func ahead(v, w pair) *big.Rat {
	sum := new(big.Rat).Mul(v.x, w.x)
	return sum.Add(sum, new(big.Rat).Mul(v.y, w.y))
}

// A stretch is a segment or an edge, as math/big has it.
type stretch struct{ a, b pair }

// has tells if a pair is on the stretch, its ends counted: the way from it to one end is not turned against that to the
// other one, and does not go the same way.
func (s stretch) has(at pair) bool {
	v, w := less(s.a, at), less(s.b, at)
	return turn(v, w).Sign() == 0 && ahead(v, w).Sign() <= 0
}

// meets tells if two stretches have a point in common: where their lines cross is solved for how far it is along both.
func (s stretch) meets(t stretch) bool {
	v, w, gap := less(s.b, s.a), less(t.b, t.a), less(t.a, s.a)
	by := turn(v, w)
	if by.Sign() == 0 {
		return s.has(t.a) || s.has(t.b) || t.has(s.a) || t.has(s.b)
	}
	within := func(x *big.Rat) bool {
		x.Quo(x, by)
		return x.Sign() >= 0 && x.Cmp(big.NewRat(1, 1)) <= 0
	}
	return within(turn(gap, w)) && within(turn(gap, v))
}

// stretchOf is a segment's.
func stretchOf(t api.Seg) stretch {
	at := func(n api.Node) pair { return pair{new(big.Rat).SetInt64(n.X), new(big.Rat).SetInt64(n.Y)} }
	return stretch{at(t.A), at(t.B)}
}

// put is a list that rises with one more in it, unless that is there.
func put[T int | int64](l []T, x T) []T {
	at, is := slices.BinarySearch(l, x)
	if is {
		return l
	}
	return slices.Insert(l, at, x)
}

// A drawing is a structure with its points, as math/big has them.
type drawing struct {
	api.Structure
	l []pair
}

// drawn is the drawing of a structure.
func drawn(s api.Structure) drawing {
	d := drawing{Structure: s}
	for _, p := range s.Plan.Points {
		d.l = append(d.l, pairOf(p))
	}
	return d
}

// zone is that of a segment by plain facts.
func (d drawing) zone(t api.Seg) api.Zone {
	var z api.Zone
	own := stretchOf(t)
	for i, at := range d.l {
		if own.has(at) {
			z.Points = append(z.Points, i)
			for _, e := range d.Plan.Edges {
				if e.A == i || e.B == i {
					z.IDs = putAll(z.IDs, e.IDs)
				}
			}
		}
	}
	for k, e := range d.Plan.Edges {
		one := stretch{d.l[e.A], d.l[e.B]}
		if !own.meets(one) {
			continue
		}
		z.Edges = append(z.Edges, k)
		z.IDs = putAll(z.IDs, e.IDs)
		if own.has(one.a) && own.has(one.b) {
			z.Along = append(z.Along, k)
		}
		if !own.has(one.a) && !own.has(one.b) && !one.has(own.a) && !one.has(own.b) {
			z.Cut = append(z.Cut, k)
		}
	}
	return z
}

// putAll puts all of some into a list that rises.
func putAll(l, some []int64) []int64 {
	for _, x := range some {
		l = put(l, x)
	}
	return l
}

// sameZone tells if two zones are the same in all.
func sameZone(y, z api.Zone) bool {
	return slices.Equal(y.Points, z.Points) && slices.Equal(y.Edges, z.Edges) && slices.Equal(y.Along, z.Along) && slices.Equal(y.Cut, z.Cut) && slices.Equal(y.IDs, z.IDs)
}

// noZone tells if a zone is that beside an error.
func noZone(z api.Zone) bool {
	return z.Points == nil && z.Edges == nil && z.Along == nil && z.Cut == nil && z.IDs == nil
}

// asked are such segments as may be asked of curves: these themselves, parts of them and such that go past them, on
// their lines, across them, from end to end, close beside and far off.
func asked(l []api.Curve, below func(int) int) []api.Seg {
	all := []api.Seg{curve(1, 0, 0, 1, 0).Seg, curve(1, -most, -most, most, most).Seg, curve(1, -most, 0, most, 1).Seg, curve(1, 3, most, 3, -most).Seg}
	some := func(reach int) int64 { return int64(below(2*reach+1) - reach) }
	add := func(a, b api.Node) {
		if t := (api.Seg{A: a, B: b}); seg.Check(t) == api.OK {
			all = append(all, t)
		}
	}
	for range 3 * min(len(l), 5) {
		c, d := l[below(len(l))].Seg, l[below(len(l))].Seg
		on := func() api.Node { // on the line of c, if that parts well
			by, parts := some(9), []int64{1, 2, 4}[below(3)]
			return api.Node{X: c.A.X + (c.B.X-c.A.X)*by/parts, Y: c.A.Y + (c.B.Y-c.A.Y)*by/parts}
		}
		beside := func(n api.Node) api.Node { return api.Node{X: n.X + some(2), Y: n.Y + some(2)} }
		add(c.A, c.B)
		add(c.B, c.A)
		add(on(), on())
		add(on(), beside(d.B))
		add(c.A, d.A)
		add(c.B, d.A)
		add(beside(c.A), beside(c.B))
		add(beside(c.A), beside(c.A))
		add(beside(c.A), d.B)
		add(api.Node{X: some(15), Y: some(15)}, api.Node{X: some(15), Y: some(15)})
		add(c.A, api.Node{X: 2*c.A.X - d.A.X, Y: 2*c.A.Y - d.A.Y})
		add(d.B, api.Node{X: 2*c.A.X - d.B.X, Y: 2*c.A.Y - d.B.Y}) // through an end, in the middle
	}
	return all
}

// wrongSegs are such as may not be.
func wrongSegs() []api.Seg {
	l := []api.Seg{{}, curve(1, 3, 4, 3, 4).Seg, curve(1, most, -most, most, -most).Seg, curve(1, most+1, 0, most+1, 0).Seg}
	for _, far := range []int64{most + 1, -most - 1, 1 << 32, math.MaxInt64, math.MinInt64} {
		l = append(l, curve(1, far, 0, 1, 1).Seg, curve(1, 0, far, 1, 1).Seg, curve(1, 1, 1, far, 0).Seg, curve(1, 1, 1, 0, far).Seg, curve(1, far, far, -far, far).Seg)
	}
	return l
}

// strange are numbers that no place of so many has.
func strange(many int) []int {
	return []int{-1, -2, many, many + 1, 2*many + 2, 1 << 32, -1 << 32, math.MaxInt, math.MaxInt - 1, math.MaxInt/2 + 1, math.MinInt, math.MinInt + 1}
}

// wrongPoints are such as may not be.
func wrongPoints() []api.Point {
	full := [4]uint64{math.MaxUint64, math.MaxUint64, math.MaxUint64, math.MaxUint64}
	var l []api.Point
	for _, x := range []api.Rat{
		{}, {N: limb.Of(1)}, {N: limb.Of(0), D: limb.Of(2)}, {N: limb.Of(2), D: limb.Of(4)}, {N: limb.Of(1), D: limb.Of(-2)}, {N: limb.Of(-1), D: limb.Of(-1)},
		{N: api.Int{Neg: true}, D: limb.Of(1)}, {N: limb.Of(1), D: api.Int{Neg: true}}, {N: api.Int{Mag: full}, D: limb.Of(1)}, {N: limb.Of(1), D: api.Int{Mag: full}},
		{N: api.Int{Mag: [4]uint64{0, 1 << 32}}, D: limb.Of(1)}, {N: api.Int{Neg: true, Mag: [4]uint64{0, 1 << 32}}, D: limb.Of(1)}, // of an N that is too great
		{N: limb.Of(1), D: api.Int{Mag: [4]uint64{0, 1}}}, // of such a D
	} {
		l = append(l, api.Point{X: x, Y: ratio.Of(1)}, api.Point{X: ratio.Of(1), Y: x}, api.Point{X: x, Y: x})
	}
	return l
}
