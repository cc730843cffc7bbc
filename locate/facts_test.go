package locate_test

import (
	"math"
	"math/big"
	"slices"
	"testing"

	"merestone/api"
	"merestone/check"
	"merestone/limb"
	"merestone/point"
	"merestone/ratio"
	"merestone/seg"
	"merestone/split"
)

// most is the greatest coordinate of a node.
const most = 1 << 26

// far is the greatest number of a point, little the least one above nought.
const (
	far    = "79228162514264337593543950335"
	little = "1/18446744073709551615"
)

// curve is a curve by its object, and its segment's coordinates.
func curve(id, ax, ay, bx, by int64) api.Curve {
	return api.Curve{ID: id, Seg: api.Seg{A: api.Node{X: ax, Y: ay}, B: api.Node{X: bx, Y: by}}}
}

// along is curves from each node to the next one, and from the last one to the first, by coordinates.
func along(id int64, at ...[2]int64) []api.Curve {
	var l []api.Curve
	for i, a := range at {
		b := at[(i+1)%len(at)]
		l = append(l, curve(id, a[0], a[1], b[0], b[1]))
	}
	return l
}

// square is one of so many on each side, from a corner on.
func square(id, x, y, side int64) []api.Curve {
	return along(id, [2]int64{x, y}, [2]int64{x + side, y}, [2]int64{x + side, y + side}, [2]int64{x, y + side})
}

// dice tells numbers below n that look like any, the same at each run.
func dice(state uint64) func(n int) int {
	return func(n int) int {
		state = state*6364136223846793005 + 1442695040888963407
		return int(state >> 33 % uint64(n))
	}
}

// figure is the curves of some square, diamond, triangle or segment: small ones, and in a wide one such as reach the
// bound.
func figure(below func(int) int, wide bool) []api.Curve {
	id := int64(1 + below(5))
	x, y, size := int64(below(20)-10), int64(below(20)-10), int64(1+below(9))
	if wide && below(3) == 0 {
		size = most - 99 - size
	}
	switch below(5) {
	case 0:
		return square(id, x-size/2, y-size/2, size)
	case 1:
		return along(id, [2]int64{x - size, y}, [2]int64{x, y - size}, [2]int64{x + size, y}, [2]int64{x, y + size})
	case 2:
		return along(id, [2]int64{x - size, y - 1}, [2]int64{x + size, y}, [2]int64{x + 1, y + size})
	case 3:
		return []api.Curve{curve(id, x, y, x-int64(below(3)), y+size)}
	}
	return []api.Curve{curve(id, x, y, x+size, y+int64(below(7)-3))}
}

// drawings hands over so many lists of curves, the same at each run: many figures are within others, others cross,
// hang together, or are there twice.
func drawings(many int, do func(l []api.Curve)) {
	below := dice(41)
	for n := range many {
		var l []api.Curve
		for range n % 9 {
			l = append(l, figure(below, n%4 == 0)...)
		}
		if n%7 == 3 {
			l = append(l, l[:len(l)/2]...)
		}
		do(l)
	}
}

// made is the structure of curves that may be.
func made(t *testing.T, l ...api.Curve) api.Structure {
	t.Helper()
	s, e := check.Of(l...)
	if e != api.OK {
		t.Fatal(l, e)
	}
	return s
}

// copied is a structure of its own memory.
func copied(s api.Structure) api.Structure {
	c := api.Structure{
		Plan:  api.Plan{Points: slices.Clone(s.Plan.Points), Edges: slices.Clone(s.Plan.Edges)},
		Mesh:  api.Mesh{From: slices.Clone(s.Mesh.From), Next: slices.Clone(s.Mesh.Next), Cycle: slices.Clone(s.Mesh.Cycle), Outside: slices.Clone(s.Mesh.Outside)},
		Faces: api.Faces{Border: slices.Clone(s.Faces.Border), Of: slices.Clone(s.Faces.Of)},
	}
	for k, e := range c.Plan.Edges {
		c.Plan.Edges[k].IDs = slices.Clone(e.IDs)
	}
	for _, l := range s.Faces.Holes {
		c.Faces.Holes = append(c.Faces.Holes, slices.Clone(l))
	}
	return c
}

// same tells if two structures are the same in all.
func same(a, b api.Structure) bool {
	return split.Same(a.Plan, b.Plan) &&
		slices.Equal(a.Mesh.From, b.Mesh.From) && slices.Equal(a.Mesh.Next, b.Mesh.Next) && slices.Equal(a.Mesh.Cycle, b.Mesh.Cycle) && slices.Equal(a.Mesh.Outside, b.Mesh.Outside) &&
		slices.Equal(a.Faces.Border, b.Faces.Border) && slices.Equal(a.Faces.Of, b.Faces.Of) && slices.EqualFunc(a.Faces.Holes, b.Faces.Holes, slices.Equal)
}

// changed is curves of which each end is another node; false, if some may not be there.
func changed(l []api.Curve, node func(api.Node) api.Node) ([]api.Curve, bool) {
	var others []api.Curve
	for _, c := range l {
		c.Seg = api.Seg{A: node(c.Seg.A), B: node(c.Seg.B)}
		if seg.Check(c.Seg) != api.OK {
			return nil, false
		}
		others = append(others, c)
	}
	return others, true
}

// spot is the point of a text.
func spot(text string) api.Point {
	p, e := point.Parse(text)
	if e != api.OK {
		panic(text)
	}
	return p
}

// value is a Rat's, as math/big has it.
func value(x api.Rat) *big.Rat {
	s, e := ratio.Text(x)
	v, ok := new(big.Rat).SetString(s)
	if e != api.OK || !ok {
		panic(s)
	}
	return v
}

// A pair is a point, as math/big has it.
type pair struct{ x, y *big.Rat }

// pairOf is a point's.
func pairOf(p api.Point) pair {
	return pair{value(p.X), value(p.Y)}
}

// spotOf is the point of a pair, and true; false, if no point may be there.
func spotOf(p pair) (api.Point, bool) {
	at, e := point.Parse(p.x.RatString() + " " + p.y.RatString())
	return at, e == api.OK
}

// between is a pair so far from a to b: 0 were a, 1 were b.
func between(a, b pair, by *big.Rat) pair {
	on := func(a, b *big.Rat) *big.Rat {
		x := new(big.Rat).Sub(b, a)
		return x.Add(x.Mul(x, by), a)
	}
	return pair{on(a.x, b.x), on(a.y, b.y)}
}

// area is twice what the triangle goes round against the clock.
func area(a, b, c pair) *big.Rat {
	left := new(big.Rat).Mul(new(big.Rat).Sub(b.x, a.x), new(big.Rat).Sub(c.y, a.y))
	return left.Sub(left, new(big.Rat).Mul(new(big.Rat).Sub(b.y, a.y), new(big.Rat).Sub(c.x, a.x)))
}

// A drawing is a structure with its points, as math/big has them.
type drawing struct {
	api.Structure
	l []pair
}

// drawn is the drawing of a structure.
func drawn(s api.Structure) drawing {
	d := drawing{Structure: s}
	for _, p := range s.Plan.Points {
		d.l = append(d.l, pairOf(p))
	}
	return d
}

// on tells if a pair is on the edge k, between its ends: it is on the line, and the way from it to one end is against
// the way to the other one.
func (d drawing) on(k int, at pair) bool {
	a, b := d.l[d.Plan.Edges[k].A], d.l[d.Plan.Edges[k].B]
	along := new(big.Rat).Mul(new(big.Rat).Sub(a.x, at.x), new(big.Rat).Sub(b.x, at.x))
	along.Add(along, new(big.Rat).Mul(new(big.Rat).Sub(a.y, at.y), new(big.Rat).Sub(b.y, at.y)))
	return area(a, b, at).Sign() == 0 && along.Sign() < 0
}

// often is how often the face's border goes round a pair that is on no edge: how often it goes up to the right of
// that, less how often it goes down there.
func (d drawing) often(face int, at pair) int {
	n := 0
	for h, c := range d.Mesh.Cycle {
		if c != d.Faces.Border[face] {
			continue
		}
		a, b := d.l[d.Mesh.From[h]], d.l[d.Mesh.From[h^1]]
		side := area(a, b, at).Sign()
		switch below, belowToo := a.y.Cmp(at.y) <= 0, b.y.Cmp(at.y) <= 0; {
		case below && !belowToo && side > 0:
			n++
		case !below && belowToo && side < 0:
			n--
		}
	}
	return n
}

// size is twice what the face's border goes round.
func (d drawing) size(face int) *big.Rat {
	sum := new(big.Rat)
	for h, c := range d.Mesh.Cycle {
		if c == d.Faces.Border[face] {
			sum.Add(sum, area(pair{new(big.Rat), new(big.Rat)}, d.l[d.Mesh.From[h]], d.l[d.Mesh.From[h^1]]))
		}
	}
	return sum
}

// where is where a pair is by plain facts: of the faces whose border goes round it in the least one.
func (d drawing) where(at pair) api.Place {
	for i, own := range d.l {
		if own.x.Cmp(at.x) == 0 && own.y.Cmp(at.y) == 0 {
			return api.Place{Kind: api.AtPoint, At: i}
		}
	}
	for k := range d.Plan.Edges {
		if d.on(k, at) {
			return api.Place{Kind: api.AtEdge, At: k}
		}
	}
	in := 0
	for i := 1; i < len(d.Faces.Border); i++ {
		if d.often(i, at) > 0 && (in == 0 || d.size(i).Cmp(d.size(in)) < 0) {
			in = i
		}
	}
	return api.Place{Kind: api.AtFace, At: in}
}

// through is the objects through a place that there is, by plain facts.
func (d drawing) through(x api.Place) []int64 {
	var l []int64
	for k, e := range d.Plan.Edges {
		if x.Kind == api.AtPoint && (x.At == e.A || x.At == e.B) || x.Kind == api.AtEdge && x.At == k {
			for _, id := range e.IDs {
				l = put(l, id)
			}
		}
	}
	return l
}

// round is the faces round a place that there is, by plain facts.
func (d drawing) round(x api.Place) []int {
	var l []int
	for h, c := range d.Mesh.Cycle {
		if x.Kind == api.AtPoint && x.At == d.Mesh.From[h] || x.Kind == api.AtEdge && x.At == h/2 {
			l = put(l, d.Faces.Of[c])
		}
	}
	if x.Kind == api.AtFace {
		l = put(l, x.At)
	}
	return l
}

// places is all that there are in the structure.
func (d drawing) places() []api.Place {
	var l []api.Place
	for kind, many := range map[api.PlaceKind]int{api.AtPoint: len(d.Plan.Points), api.AtEdge: len(d.Plan.Edges), api.AtFace: len(d.Faces.Border)} {
		for i := range many {
			l = append(l, api.Place{Kind: kind, At: i})
		}
	}
	return l
}

// asked are such points as may be asked of a drawing: its points, such on its edges, close beside both, between its
// points, on the grid, and far from all.
func (d drawing) asked(below func(int) int) []api.Point {
	all := []api.Point{spot("0 0"), spot("1/2 -7/3"), spot(far + " -" + far), spot("-" + far + " 1/3"), spot(little + " " + little), spot("67108864 67108864"), spot("-67108864 0")}
	add := func(p pair) {
		if at, may := spotOf(p); may {
			all = append(all, at)
		}
	}
	beside := func(p pair) {
		for _, by := range [][2]int64{{0, 0}, {1, 0}, {-1, 0}, {0, 1}, {0, -1}, {3, 1}} {
			add(pair{new(big.Rat).Add(p.x, big.NewRat(by[0], 1<<24)), new(big.Rat).Add(p.y, big.NewRat(by[1], 1<<24))})
		}
	}
	for range 5 * min(len(d.l), 3) {
		a, b := d.l[below(len(d.l))], d.l[below(len(d.l))]
		e := d.Plan.Edges[below(len(d.Plan.Edges))]
		beside(a)
		add(between(a, b, big.NewRat(1, 2)))
		on := between(d.l[e.A], d.l[e.B], big.NewRat(int64(1+below(6)), 7))
		beside(on)
		add(pair{on.x, a.y})
		add(pair{a.x, on.y})
		add(between(d.l[e.A], d.l[e.B], big.NewRat(int64(8+below(6)), 7))) // on the line, past the end
		add(between(d.l[e.A], d.l[e.B], big.NewRat(int64(-1-below(6)), 7)))
		add(pair{big.NewRat(int64(below(25)-12), 1), big.NewRat(int64(below(25)-12), 1)})
	}
	return all
}

// strange are numbers that no place of so many has.
func strange(many int) []int {
	return []int{-1, -2, many, many + 1, 2*many + 2, 1 << 32, -1 << 32, math.MaxInt, math.MaxInt - 1, math.MaxInt/2 + 1, math.MinInt, math.MinInt + 1}
}

// wrongPoints are such as may not be.
func wrongPoints() []api.Point {
	full := [4]uint64{math.MaxUint64, math.MaxUint64, math.MaxUint64, math.MaxUint64}
	var l []api.Point
	for _, x := range []api.Rat{
		{}, {N: limb.Of(1)}, {N: limb.Of(0), D: limb.Of(2)}, {N: limb.Of(2), D: limb.Of(4)}, {N: limb.Of(1), D: limb.Of(-2)}, {N: limb.Of(-1), D: limb.Of(-1)},
		{N: api.Int{Neg: true}, D: limb.Of(1)}, {N: limb.Of(1), D: api.Int{Neg: true}}, {N: api.Int{Mag: full}, D: limb.Of(1)}, {N: limb.Of(1), D: api.Int{Mag: full}},
		{N: api.Int{Mag: [4]uint64{0, 1 << 32}}, D: limb.Of(1)}, {N: api.Int{Neg: true, Mag: [4]uint64{0, 1 << 32}}, D: limb.Of(1)}, // of an N that is too great
		{N: limb.Of(1), D: api.Int{Mag: [4]uint64{0, 1}}}, // of such a D
	} {
		l = append(l, api.Point{X: x, Y: ratio.Of(1)}, api.Point{X: ratio.Of(1), Y: x}, api.Point{X: x, Y: x})
	}
	return l
}
