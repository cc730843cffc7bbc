package ring_test

import (
	"math"
	"math/big"
	"slices"

	"merestone/api"
	"merestone/limb"
	"merestone/point"
)

// most is the greatest coordinate of a node.
const most = 1 << 26

// nodes are those of these coordinates.
func nodes(c ...int64) []api.Node {
	var l []api.Node
	for i := 0; i+1 < len(c); i += 2 {
		l = append(l, api.Node{X: c[i], Y: c[i+1]})
	}
	return l
}

// must is the answer, where there is one.
func must[T any](answer T, e api.Errno) T {
	if e != api.OK {
		panic(e)
	}
	return answer
}

// at is the point of a text.
func at(text string) api.Point {
	return must(point.Parse(text))
}

// sides are the edges of a ring.
func sides(l []api.Node) []api.Seg {
	var s []api.Seg
	for i, n := range l {
		s = append(s, api.Seg{A: n, B: l[(i+1)%len(l)]})
	}
	return s
}

// order is that of nodes.
func order(a, b api.Node) int {
	if a.X != b.X {
		return sign(a.X - b.X)
	}
	return sign(a.Y - b.Y)
}

// sign is that of a number.
func sign(n int64) int {
	switch {
	case n < 0:
		return -1
	case n > 0:
		return 1
	}
	return 0
}

// turn is that of three nodes.
func turn(a, b, c api.Node) int {
	return sign((b.X-a.X)*(c.Y-a.Y) - (b.Y-a.Y)*(c.X-a.X))
}

// shared is how much two segments share: nothing 0, a point 1, a piece 2; and if they cross.
func shared(s, t api.Seg) (many int, cross bool) {
	a, b, c, d := turn(s.A, s.B, t.A), turn(s.A, s.B, t.B), turn(t.A, t.B, s.A), turn(t.A, t.B, s.B)
	if a == 0 && b == 0 {
		low := slices.MaxFunc([]api.Node{slices.MinFunc([]api.Node{s.A, s.B}, order), slices.MinFunc([]api.Node{t.A, t.B}, order)}, order)
		high := slices.MinFunc([]api.Node{slices.MaxFunc([]api.Node{s.A, s.B}, order), slices.MaxFunc([]api.Node{t.A, t.B}, order)}, order)
		return 1 - order(low, high), false
	}
	if a*b > 0 || c*d > 0 {
		return 0, false
	}
	return 1, a*b < 0 && c*d < 0
}

// simple tells if a ring is simple.
func simple(l []api.Node) bool {
	all := sides(l)
	for i, s := range all {
		if s.A == s.B {
			return false
		}
		for j, t := range all {
			if i == j || t.A == t.B {
				continue
			}
			wanted := 0
			if (i+1)%len(all) == j || (j+1)%len(all) == i {
				wanted = 1
			}
			if many, _ := shared(s, t); many != wanted {
				return false
			}
		}
	}
	return true
}

// apart tells if no edges of two rings share a piece, or cross.
func apart(a, b []api.Node) bool {
	for _, s := range sides(a) {
		for _, t := range sides(b) {
			if many, cross := shared(s, t); many == 2 || cross {
				return false
			}
		}
	}
	return true
}

// area is twice that of the triangles from the first corner to each edge.
func area(l []api.Node) *big.Int {
	sum := new(big.Int)
	for _, s := range sides(l) {
		a, b := big.NewInt(s.A.X-l[0].X), big.NewInt(s.B.X-l[0].X)
		sum.Add(sum, a.Mul(a, big.NewInt(s.B.Y-l[0].Y)))
		sum.Sub(sum, b.Mul(b, big.NewInt(s.A.Y-l[0].Y)))
	}
	return sum
}

// check is what is told of corners of a ring.
func check(l []api.Node) api.Errno {
	for _, n := range l {
		if max(n.X, -n.X, n.Y, -n.Y) > most || min(n.X, n.Y) == math.MinInt64 {
			return api.ErrArg
		}
	}
	switch {
	case len(l) < 3 || len(l) > 512:
		return api.ErrLong
	case !simple(l):
		return api.ErrSimple
	}
	return api.OK
}

// A spot is a point, as big has it.
type spot struct{ x, y *big.Rat }

// spotOf is the spot of a text.
func spotOf(x, y string) spot {
	a, ok := new(big.Rat).SetString(x)
	b, fine := new(big.Rat).SetString(y)
	if !ok || !fine {
		panic(x + " " + y)
	}
	return spot{a, b}
}

// point is the point there.
func (p spot) point() api.Point {
	return at(p.x.RatString() + " " + p.y.RatString())
}

// whole is a whole number as big has it.
func whole(n int64) *big.Rat {
	return new(big.Rat).SetInt64(n)
}

// by is the x of the point of a line that has this y; the line does not lie flat.
func by(s api.Seg, y *big.Rat) *big.Rat {
	x := new(big.Rat).Sub(y, whole(s.A.Y))
	return x.Add(x.Mul(x, big.NewRat(s.B.X-s.A.X, s.B.Y-s.A.Y)), whole(s.A.X))
}

// where tells where a spot is, by the edges to the right of it.
func where(p spot, l []api.Node) int {
	within := -1
	for _, s := range sides(l) {
		if s.A == s.B {
			continue
		}
		low, high := whole(min(s.A.Y, s.B.Y)), whole(max(s.A.Y, s.B.Y))
		left, right := whole(min(s.A.X, s.B.X)), whole(max(s.A.X, s.B.X))
		switch {
		case p.y.Cmp(low) < 0 || p.y.Cmp(high) > 0:
		case low.Cmp(high) == 0:
			if p.x.Cmp(left) >= 0 && p.x.Cmp(right) <= 0 {
				return 0
			}
		case p.x.Cmp(by(s, p.y)) == 0:
			return 0
		case p.x.Cmp(by(s, p.y)) < 0 && p.y.Cmp(high) < 0:
			within = -within
		}
	}
	return within
}

// laid is the ring against the clock, its first corner ahead; it is simple.
func laid(l []api.Node) []api.Node {
	l = slices.Clone(l)
	if area(l).Sign() < 0 {
		slices.Reverse(l)
	}
	for order(l[0], slices.MinFunc(l, order)) != 0 {
		l = append(l[1:], l[0])
	}
	return l
}

// rings hands over all lists of so many nodes of a grid, each of which is told anew.
func rings(wide, high int64, many int, do func(l []api.Node)) {
	l := make([]api.Node, many)
	for n := range int(math.Pow(float64(wide*high), float64(many))) {
		for i := range l {
			place := int64(n) % (wide * high)
			l[i] = api.Node{X: place % wide, Y: place / wide}
			n /= int(wide * high)
		}
		do(slices.Clone(l))
	}
}

// few hands over all rings of 3 corners on a grid of 3 by 3, of 4 there, of 5 on one of 3 by 2, and some longer ones.
func few(do func(l []api.Node)) {
	rings(3, 3, 3, do)
	rings(3, 3, 4, do)
	rings(3, 2, 5, do)
	drawn(4000, do)
}

// drawn hands over so many rings of 5 to 9 corners, the same at each run: on a small grid, and on one that is as wide
// as the nodes go.
func drawn(many int, do func(l []api.Node)) {
	seed := uint64(88172645463325252)
	draw := func(n int64) int64 {
		seed ^= seed << 13
		seed ^= seed >> 7
		seed ^= seed << 17
		return int64(seed % uint64(n))
	}
	for n := range many {
		var l []api.Node
		far, step := int64(4), int64(1)
		if n%2 == 1 {
			far, step = 8, most/4
		}
		for range 5 + n%5 {
			l = append(l, api.Node{X: step * (draw(far+1) - far/2), Y: step * (draw(far+1) - far/2)})
		}
		do(l)
	}
}

// valid are simple rings of all kinds.
func valid() [][]api.Node {
	l := [][]api.Node{
		nodes(0, 0, 2, 0, 0, 2), nodes(0, 2, 2, 0, 0, 0), nodes(0, 0, 4, 0, 4, 4, 0, 4), nodes(1, 1, 1, 3, 3, 3, 3, 1), nodes(0, 0, 2, 0, 1, 1, 2, 2, 0, 2), nodes(0, 0, 3, 0, 3, 1, 1, 1, 1, 2, 3, 2, 3, 3, 0, 3),
		nodes(0, 0, 1, 0, 2, 0, 2, 2, 1, 1), nodes(0, 0, 0, 1, 0, 2, 2, 2), nodes(5, 5, 3, 4, 2, 7, 4, 6), nodes(-3, -1, -1, -3, 3, 1, 1, 3, -1, 0), nodes(0, 0, 4, 2, 8, 0, 4, 5), nodes(2, 2, 6, 2, 6, 6, 2, 6),
		nodes(-most, -most, most, -most, most, most, -most, most), nodes(-most, -most, most, most, most-1, most), nodes(-most, -most, most, most-1, most, most), nodes(most, -most, most-1, -most, -most, most),
		nodes(-most, 0, 0, -most, most, 0, 0, most), nodes(most, most, most-1, most, most, most-1), nodes(0, most, -1, -most, 1, -most), comb(8), comb(511), comb(512), spiral(256),
	}
	drawn(2000, func(r []api.Node) {
		if simple(r) {
			l = append(l, r)
		}
	})
	return l
}

// comb is a simple ring of so many corners: teeth from the bottom upwards.
func comb(many int) []api.Node {
	l := nodes(int64(many), -1, 0, -1)
	for i := range int64(many - 2) {
		l = append(l, api.Node{X: i, Y: 7 * (i % 2)})
	}
	return l
}

// spiral is a simple ring of twice as many corners: a way inwards, and back beside it.
func spiral(many int) []api.Node {
	var in, back []api.Node
	for i := range int64(many) {
		far := 4 * (int64(many) - i)
		x, y := []int64{far, far, -far, -far}[i%4], []int64{-far, far, far, -far}[i%4]
		if i%4 == 3 {
			y += 4 // what comes next goes below it
		}
		in = append(in, api.Node{X: x, Y: y})
		back = append(back, api.Node{X: x - sign64(x), Y: y - sign64(y)})
	}
	slices.Reverse(back)
	return append(in, back...)
}

// sign64 is the sign of a number, of its kind.
func sign64(n int64) int64 {
	return int64(sign(n))
}

// badNodes are such as may not be.
func badNodes() []api.Node {
	var l []api.Node
	for _, c := range []int64{most + 1, -most - 1, 1 << 27, 1 << 32, -1 << 32, 1<<32 + 1, math.MaxInt64, math.MinInt64, math.MinInt64 + 1} {
		l = append(l, nodes(c, 1, 1, c, c, c, -most, c)...)
	}
	return l
}

// badPoints are such as may not be.
func badPoints() []api.Point {
	l := []api.Point{{}}
	one := at("1 1").X
	for _, x := range []api.Rat{
		{}, {N: limb.Of(1)}, {N: limb.Of(0), D: limb.Of(2)}, {N: limb.Of(2), D: limb.Of(4)}, {N: limb.Of(1), D: limb.Of(-2)}, {N: limb.Of(-1), D: limb.Of(-1)},
		{N: api.Int{Neg: true}, D: limb.Of(1)}, {N: limb.Of(1), D: api.Int{Neg: true}},
		{N: api.Int{Mag: [4]uint64{0, 1 << 32}}, D: limb.Of(1)}, {N: limb.Of(1), D: api.Int{Mag: [4]uint64{0, 1}}}, // of an N, a D that is too great
	} {
		l = append(l, api.Point{X: x, Y: one}, api.Point{X: one, Y: x}, api.Point{X: x, Y: x})
	}
	return l
}
