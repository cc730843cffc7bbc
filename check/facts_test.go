package check_test

import (
	"math"
	"math/big"
	"slices"
	"testing"

	"merestone/api"
	"merestone/check"
	"merestone/dcel"
	"merestone/faces"
	"merestone/limb"
	"merestone/point"
	"merestone/ratio"
	"merestone/split"
)

// most is the greatest coordinate of a node.
const most = 1 << 26

// curve is a curve by its object, and its segment's coordinates.
func curve(id, ax, ay, bx, by int64) api.Curve {
	return api.Curve{ID: id, Seg: api.Seg{A: api.Node{X: ax, Y: ay}, B: api.Node{X: bx, Y: by}}}
}

// along is curves from each node to the next one, and from the last one to the first, by coordinates.
func along(id int64, at ...[2]int64) []api.Curve {
	var l []api.Curve
	for i, a := range at {
		b := at[(i+1)%len(at)]
		l = append(l, curve(id, a[0], a[1], b[0], b[1]))
	}
	return l
}

// square is one of so many on each side, from a corner on.
func square(id, x, y, side int64) []api.Curve {
	return along(id, [2]int64{x, y}, [2]int64{x + side, y}, [2]int64{x + side, y + side}, [2]int64{x, y + side})
}

// dice tells numbers below n that look like any, the same at each run.
func dice() func(n int) int {
	state := uint32(2463534242)
	return func(n int) int {
		state ^= state << 13
		state ^= state >> 17
		state ^= state << 5
		return int(state % uint32(n))
	}
}

// figure is the curves of some square, diamond, triangle or segment: small ones, and in a wide one such as reach
// the bound.
func figure(below func(int) int, wide bool) []api.Curve {
	id := int64(1 + below(5))
	x, y, size := int64(below(30)-15), int64(below(30)-15), int64(1+below(12))
	if wide && below(3) == 0 {
		size = most - 99 - size
	}
	switch below(5) {
	case 0:
		return square(id, x-size/2, y-size/2, size)
	case 1:
		return along(id, [2]int64{x - size, y}, [2]int64{x, y - size}, [2]int64{x + size, y}, [2]int64{x, y + size})
	case 2:
		return along(id, [2]int64{x - size, y - 1}, [2]int64{x + size, y}, [2]int64{x + 1, y + size})
	case 3:
		return []api.Curve{curve(id, x, y, x-int64(below(3)), y+size)}
	}
	return []api.Curve{curve(id, x, y, x+size, y+int64(below(7)-3))}
}

// lists hands over so many lists of curves, each of less figures than most, the same at each run: many of them are
// within others, others cross, or hang together.
func lists(many, figures int, do func(l []api.Curve)) {
	below := dice()
	for n := range many {
		var l []api.Curve
		for range n % figures {
			l = append(l, figure(below, n%4 == 0)...)
		}
		do(l)
	}
}

// made is the structure of curves that may be.
func made(t *testing.T, l ...api.Curve) api.Structure {
	t.Helper()
	s, e := check.Of(l...)
	if e != api.OK {
		t.Fatal(l, e)
	}
	return s
}

// rebuilt is a structure of which the plan is another one, with the mesh and the faces of that.
func rebuilt(p api.Plan) api.Structure {
	m := dcel.Build(p)
	return api.Structure{Plan: p, Mesh: m, Faces: faces.Build(p, m)}
}

// copied is a structure of its own memory.
func copied(s api.Structure) api.Structure {
	c := api.Structure{
		Plan:  api.Plan{Points: slices.Clone(s.Plan.Points), Edges: slices.Clone(s.Plan.Edges)},
		Mesh:  api.Mesh{From: slices.Clone(s.Mesh.From), Next: slices.Clone(s.Mesh.Next), Cycle: slices.Clone(s.Mesh.Cycle), Outside: slices.Clone(s.Mesh.Outside)},
		Faces: api.Faces{Border: slices.Clone(s.Faces.Border), Of: slices.Clone(s.Faces.Of)},
	}
	for k, e := range c.Plan.Edges {
		c.Plan.Edges[k].IDs = slices.Clone(e.IDs)
	}
	for _, l := range s.Faces.Holes {
		c.Faces.Holes = append(c.Faces.Holes, slices.Clone(l))
	}
	return c
}

// same tells if two structures are the same in all.
func same(a, b api.Structure) bool {
	return split.Same(a.Plan, b.Plan) && sameMesh(a.Mesh, b.Mesh) && sameFaces(a.Faces, b.Faces)
}

func sameMesh(a, b api.Mesh) bool {
	return slices.Equal(a.From, b.From) && slices.Equal(a.Next, b.Next) && slices.Equal(a.Cycle, b.Cycle) && slices.Equal(a.Outside, b.Outside)
}

func sameFaces(a, b api.Faces) bool {
	return slices.Equal(a.Border, b.Border) && slices.Equal(a.Of, b.Of) && slices.EqualFunc(a.Holes, b.Holes, slices.Equal)
}

// spot is the point of a text.
func spot(text string) api.Point {
	p, e := point.Parse(text)
	if e != api.OK {
		panic(text)
	}
	return p
}

// great is an Int's number; false, if it may not be.
func great(x api.Int) (*big.Int, bool) {
	n := new(big.Int)
	for i := range x.Mag {
		word := new(big.Int).SetUint64(x.Mag[len(x.Mag)-1-i])
		n.Add(n.Lsh(n, 64), word)
	}
	if x.Neg && n.Sign() == 0 {
		return nil, false
	}
	if x.Neg {
		n.Neg(n)
	}
	return n, true
}

// fraction is a Rat of a point; false, if it may not be.
func fraction(x api.Rat) (*big.Rat, bool) {
	n, may := great(x.N)
	d, mayToo := great(x.D)
	if !may || !mayToo || d.Sign() <= 0 || n.BitLen() > 96 || d.BitLen() > 64 {
		return nil, false
	}
	f := new(big.Rat).SetFrac(n, d)
	return f, f.Num().Cmp(n) == 0 && f.Denom().Cmp(d) == 0
}

// A pair is a point's coordinates.
type pair struct {
	x, y *big.Rat
}

// flawOf is a structure's flaw by plain facts, but for that layers 13 and 14 tell what mesh and faces are.
func flawOf(s api.Structure) api.FlawKind {
	var l []pair
	for i, p := range s.Plan.Points {
		x, may := fraction(p.X)
		y, mayToo := fraction(p.Y)
		if !may || !mayToo {
			return api.FlawPoint
		}
		if i > 0 {
			ahead := l[i-1]
			if by := ahead.x.Cmp(x); by > 0 || by == 0 && ahead.y.Cmp(y) >= 0 {
				return api.FlawPoint
			}
		}
		l = append(l, pair{x, y})
	}
	for k, e := range s.Plan.Edges {
		if !fits(e, l) {
			return api.FlawEdge
		}
		if k > 0 {
			if ahead := s.Plan.Edges[k-1]; ahead.A > e.A || ahead.A == e.A && ahead.B >= e.B {
				return api.FlawEdge
			}
		}
	}
	m := dcel.Build(s.Plan)
	switch {
	case !goesRound(s.Plan):
		return api.FlawRound
	case !sameMesh(s.Mesh, m):
		return api.FlawMesh
	case !sameFaces(s.Faces, faces.Build(s.Plan, m)):
		return api.FlawFaces
	}
	return api.FlawNone
}

// fits tells if an edge may be by itself.
func fits(e api.Edge, l []pair) bool {
	w, far := e.Way, int64(1<<27)
	if e.A < 0 || e.B < 0 || e.A >= len(l) || e.B >= len(l) || e.A >= e.B || w.X < -far || w.X > far || w.Y < -far || w.Y > far {
		return false
	}
	if new(big.Int).GCD(nil, nil, big.NewInt(max(w.X, -w.X)), big.NewInt(max(w.Y, -w.Y))).Cmp(big.NewInt(1)) != 0 {
		return false
	}
	right, up := new(big.Rat).Sub(l[e.B].x, l[e.A].x), new(big.Rat).Sub(l[e.B].y, l[e.A].y)
	x, y := new(big.Rat).SetInt64(w.X), new(big.Rat).SetInt64(w.Y)
	if new(big.Rat).Mul(right, y).Cmp(new(big.Rat).Mul(up, x)) != 0 || right.Sign() != x.Sign() || up.Sign() != y.Sign() {
		return false
	}
	for i, id := range e.IDs {
		if id < 1 || id > math.MaxInt32 || i > 0 && id < e.IDs[i-1] {
			return false
		}
	}
	return len(e.IDs) > 0
}

// goesRound tells if each point is an end of edges, and no two of these leave it in one way.
func goesRound(p api.Plan) bool {
	for i := range p.Points {
		var ways []api.Way
		for _, e := range p.Edges {
			if e.A == i {
				ways = append(ways, e.Way)
			}
			if e.B == i {
				ways = append(ways, api.Way{X: -e.Way.X, Y: -e.Way.Y})
			}
		}
		for n, w := range ways {
			for _, v := range ways[:n] {
				if w.X*v.Y == w.Y*v.X && w.X*v.X+w.Y*v.Y > 0 {
					return false
				}
			}
		}
		if len(ways) == 0 {
			return false
		}
	}
	return true
}

// parts is how many parts a plan has: each edge that joins two of them makes one less.
func parts(p api.Plan) int {
	of := make([]int, len(p.Points))
	for i := range of {
		of[i] = i
	}
	many := len(of)
	for _, e := range p.Edges {
		a, b := of[e.A], of[e.B]
		if a == b {
			continue
		}
		many--
		for i := range of {
			if of[i] == b {
				of[i] = a
			}
		}
	}
	return many
}

// wrongPoints are such as may not be.
func wrongPoints() []api.Point {
	full := [4]uint64{math.MaxUint64, math.MaxUint64, math.MaxUint64, math.MaxUint64}
	var l []api.Point
	for _, x := range []api.Rat{
		{}, {N: limb.Of(1)}, {N: limb.Of(0), D: limb.Of(2)}, {N: limb.Of(2), D: limb.Of(4)}, {N: limb.Of(1), D: limb.Of(-2)}, {N: limb.Of(-1), D: limb.Of(-1)},
		{N: api.Int{Neg: true}, D: limb.Of(1)}, {N: limb.Of(1), D: api.Int{Neg: true}}, {N: api.Int{Mag: full}, D: limb.Of(1)}, {N: limb.Of(1), D: api.Int{Mag: full}},
		{N: api.Int{Mag: [4]uint64{0, 1 << 32}}, D: limb.Of(1)}, {N: api.Int{Neg: true, Mag: [4]uint64{0, 1 << 32}}, D: limb.Of(1)}, // of an N that is too great
		{N: limb.Of(1), D: api.Int{Mag: [4]uint64{0, 1}}}, // of such a D
	} {
		l = append(l, api.Point{X: x, Y: ratio.Of(1)}, api.Point{X: ratio.Of(1), Y: x}, api.Point{X: x, Y: x})
	}
	return l
}
