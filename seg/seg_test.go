package seg_test

import (
	"math"
	"math/big"
	"slices"
	"strings"
	"testing"

	"merestone/api"
	"merestone/limb"
	"merestone/seg"
)

// most is the greatest coordinate of a node.
const most = 1 << 26

// line is a segment by its coordinates.
func line(ax, ay, bx, by int64) api.Seg {
	return api.Seg{A: api.Node{X: ax, Y: ay}, B: api.Node{X: bx, Y: by}}
}

// fraction is a Rat of a fraction that is small enough for one.
func fraction(b *big.Rat) api.Rat {
	integer := func(n *big.Int) api.Int {
		a, e := limb.Parse(n.String())
		if e != api.OK {
			panic(e)
		}
		return a
	}
	return api.Rat{N: integer(b.Num()), D: integer(b.Denom())}
}

// spot is a point, as big has it.
type spot struct{ x, y *big.Rat }

// at is the spot of a text.
func at(s string) spot {
	x, y, _ := strings.Cut(s, " ")
	a, ok := new(big.Rat).SetString(x)
	b, both := new(big.Rat).SetString(y)
	if !ok || !both {
		panic(s)
	}
	return spot{x: a, y: b}
}

// of is the spot of a node.
func of(n api.Node) spot {
	return spot{x: new(big.Rat).SetInt64(n.X), y: new(big.Rat).SetInt64(n.Y)}
}

// point is the point there.
func (p spot) point() api.Point {
	return api.Point{X: fraction(p.x), Y: fraction(p.y)}
}

// plus is the spot so much farther.
func (p spot) plus(x, y *big.Rat) spot {
	return spot{x: new(big.Rat).Add(p.x, x), y: new(big.Rat).Add(p.y, y)}
}

func (p spot) String() string {
	return p.x.RatString() + " " + p.y.RatString()
}

// along is the spot that is part times as far from A as B is.
func along(s api.Seg, part *big.Rat) spot {
	x, y := new(big.Rat).SetInt64(s.B.X-s.A.X), new(big.Rat).SetInt64(s.B.Y-s.A.Y)
	return of(s.A).plus(x.Mul(x, part), y.Mul(y, part))
}

// sideOf is the side by big.
func sideOf(s api.Seg, p spot) int {
	a, b := of(s.A), of(s.B)
	minus := func(x, y *big.Rat) *big.Rat { return new(big.Rat).Sub(x, y) }
	left := minus(b.x, a.x)
	left.Mul(left, minus(p.y, a.y))
	right := minus(b.y, a.y)
	right.Mul(right, minus(p.x, a.x))
	return left.Cmp(right)
}

// isOn tells by big if p is some part between 0 and 1 of the way from A to B.
func isOn(s api.Seg, p spot) bool {
	part := new(big.Rat).SetInt64(s.B.X - s.A.X)
	if part.Sign() != 0 {
		part.Quo(new(big.Rat).Sub(p.x, of(s.A).x), part)
	} else {
		part.Quo(new(big.Rat).Sub(p.y, of(s.A).y), new(big.Rat).SetInt64(s.B.Y-s.A.Y))
	}
	there := along(s, part)
	return there.x.Cmp(p.x) == 0 && there.y.Cmp(p.y) == 0 && part.Sign() >= 0 && part.Cmp(big.NewRat(1, 1)) <= 0
}

// nodes are such as may be: near one another, in lines, and at the bound.
func nodes() []api.Node {
	l := []api.Node{{X: most, Y: most}, {X: -most, Y: most}, {X: most, Y: -most}, {X: -most, Y: -most}, {X: most - 1, Y: most}, {X: -most, Y: 1 - most}, {X: 1, Y: most}}
	for x := range int64(3) {
		for y := range int64(3) {
			l = append(l, api.Node{X: x - 1, Y: 2*y - 1})
		}
	}
	return append(l, api.Node{X: 2, Y: 7}, api.Node{X: -5, Y: 3}, api.Node{X: 12345678, Y: -7654321})
}

// segments are all such from one of these nodes to another.
func segments() []api.Seg {
	var l []api.Seg
	for _, a := range nodes() {
		for _, b := range nodes() {
			if a != b {
				l = append(l, api.Seg{A: a, B: b})
			}
		}
	}
	return l
}

// spots are such as points may be, wherever segments are: nodes, and those of great N and D.
func spots() []spot {
	var l []spot
	for _, n := range nodes() {
		l = append(l, of(n))
	}
	top := new(big.Int).Sub(new(big.Int).Lsh(big.NewInt(1), 96), big.NewInt(1)).String()
	below := new(big.Int).SetUint64(math.MaxUint64).String()
	for _, s := range []string{
		"1/2 1/2", "-1/2 1/3", "0 1/2", "1/2 0", "-7/3 5/2", "67108864 1/2", "67108865 67108865", "-67108865 0", "0 4294967296", "4294967296 0", "18446744073709551616 18446744073709551616",
		top + " " + top, "-" + top + " " + top, top + "/" + below[:18] + "7 -1/" + below, "1/" + below + " 1/" + below, "-1/" + below + " 1/" + below[:19], top + " 1/" + below, "1/" + below + " -" + top,
		"79228162514264337593543950334/18446744073709551615 79228162514264337593543950334/18446744073709551615",
	} {
		l = append(l, at(s))
	}
	return l
}

// near are spots on a segment's line, ahead of it, between its ends and behind it, and spots just beside these.
func near(s api.Seg) []spot {
	var l []spot
	little := new(big.Rat).SetFrac(big.NewInt(1), new(big.Int).Lsh(big.NewInt(1), 63))
	less := new(big.Rat).Neg(little)
	nought := new(big.Rat)
	for _, part := range []*big.Rat{big.NewRat(-1, 1), big.NewRat(-1, 16), nought, big.NewRat(1, 64), big.NewRat(1, 3), big.NewRat(1, 2), big.NewRat(12345, 54321), big.NewRat(1, 1), big.NewRat(17, 16), big.NewRat(7, 3)} {
		l = append(l, along(s, part))
		if p := along(s, part); p.x.IsInt() && p.y.IsInt() {
			l = append(l, p.plus(little, nought), p.plus(less, nought), p.plus(nought, little), p.plus(nought, less))
		}
	}
	return l
}

// each hands over segments with spots.
func each(do func(s api.Seg, p spot)) {
	all := spots()
	for _, s := range segments() {
		for _, p := range append(near(s), all...) {
			do(s, p)
		}
	}
}

// far are coordinates that no node may have.
func far() []int64 {
	return []int64{most + 1, -most - 1, 1 << 27, 1 << 32, -1 << 32, 1<<32 + 1, math.MaxInt64, math.MinInt64, math.MinInt64 + 1, math.MaxInt64 - most}
}

// badNodes are such as may not be.
func badNodes() []api.Node {
	var l []api.Node
	for _, c := range far() {
		l = append(l, api.Node{X: c, Y: 1}, api.Node{X: 1, Y: c}, api.Node{X: c, Y: c})
	}
	return l
}

// badSegments are such as may not be: from a node to itself, and with ends that may not be.
func badSegments() []api.Seg {
	var l []api.Seg
	for _, n := range append(nodes(), badNodes()...) {
		l = append(l, api.Seg{A: n, B: n})
	}
	for _, n := range badNodes() {
		l = append(l, api.Seg{A: n}, api.Seg{B: n}, api.Seg{A: n, B: api.Node{X: -n.X, Y: n.Y}})
	}
	return l
}

// badPoints are such as may not be.
func badPoints() []api.Point {
	l := []api.Point{{}}
	one := fraction(big.NewRat(1, 1))
	for _, x := range []api.Rat{
		{}, {N: limb.Of(1)}, {N: limb.Of(0), D: limb.Of(2)}, {N: limb.Of(2), D: limb.Of(4)}, {N: limb.Of(1), D: limb.Of(-2)}, {N: limb.Of(-1), D: limb.Of(-1)},
		{N: api.Int{Neg: true}, D: limb.Of(1)}, {N: limb.Of(1), D: api.Int{Neg: true}},
		{N: api.Int{Mag: [4]uint64{0, 1 << 32}}, D: limb.Of(1)}, {N: api.Int{Mag: [4]uint64{1, 0, 0, 1}, Neg: true}, D: limb.Of(1)}, // of an N that is too great
		{N: limb.Of(1), D: api.Int{Mag: [4]uint64{0, 1}}}, {N: limb.Of(1), D: api.Int{Mag: [4]uint64{math.MaxUint64, math.MaxUint64, math.MaxUint64, math.MaxUint64}}}, // of such a D
	} {
		l = append(l, api.Point{X: x, Y: one}, api.Point{X: one, Y: x}, api.Point{X: x, Y: x})
	}
	return l
}

func TestCheck(t *testing.T) {
	for _, s := range append(segments(), line(most, most, -most, -most), line(0, 0, 0, 1), line(0, 0, 1, 0), line(0, most, 0, -most)) {
		if e := seg.Check(s); e != api.OK {
			t.Error(s, e)
		}
	}
	for _, s := range badSegments() {
		if e := seg.Check(s); e != api.ErrArg {
			t.Error(s, e)
		}
	}
}

func TestTurn(t *testing.T) {
	for _, a := range nodes() {
		for _, b := range nodes() {
			for _, c := range nodes() {
				if n, e := seg.Turn(a, b, c); n != sideOf(api.Seg{A: a, B: b}, of(c)) || e != api.OK {
					t.Error(a, b, c, n, e)
				}
			}
		}
	}
}

func TestTurnRows(t *testing.T) {
	for _, c := range []struct {
		ax, ay, bx, by, cx, cy int64
		want                   int
	}{
		{0, 0, 2, 0, 1, 1, 1}, {0, 0, 2, 0, 1, -1, -1}, {0, 0, 2, 0, 7, 0, 0}, {0, 0, 2, 0, -7, 0, 0}, {2, 0, 0, 0, 1, 1, -1},
		{0, 0, 0, 2, -1, 5, 1}, {0, 0, 0, 2, 1, 5, -1}, {0, 0, 0, 2, 0, 1, 0}, {0, 0, 3, 2, 3, 2, 0}, {0, 0, 3, 2, 0, 0, 0},
		{1, 1, 1, 1, 5, 7, 0}, {1, 1, 1, 1, 1, 1, 0}, {most, most, most, most, -most, 0, 0}, // both are the same
		{-most, -most, most, most, most - 1, most, 1}, {-most, -most, most, most, most, most - 1, -1}, {-most, -most, most, most, 1, 1, 0},
		{-most, -most, most, most - 1, most - 1, most - 1, 1}, {-most, -most, most, most - 1, 0, -1, -1}, {-most, most, most, -most, -most, -most, -1},
	} {
		a, b := api.Node{X: c.ax, Y: c.ay}, api.Node{X: c.bx, Y: c.by}
		if n, e := seg.Turn(a, b, api.Node{X: c.cx, Y: c.cy}); n != c.want || e != api.OK {
			t.Error(c, n, e)
		}
	}
}

func TestTurnOfBadNodes(t *testing.T) {
	good := api.Node{X: 3, Y: -2}
	for _, n := range badNodes() {
		for _, l := range [][3]api.Node{{n, good, {}}, {good, n, {}}, {good, {}, n}, {good, good, n}, {n, n, good}, {n, n, n}, {n, good, n}} {
			if n, e := seg.Turn(l[0], l[1], l[2]); n != 0 || e != api.ErrArg {
				t.Error(l, n, e)
			}
		}
	}
}

func TestSideAndOn(t *testing.T) {
	var sides [3]int
	on := 0
	each(func(s api.Seg, p spot) {
		wanted := sideOf(s, p)
		sides[wanted+1]++
		if n, e := seg.Side(s, p.point()); n != wanted || e != api.OK {
			t.Error(s, p, n, e)
		}
		is := isOn(s, p)
		if is {
			on++
		}
		if got, e := seg.On(s, p.point()); got != is || e != api.OK {
			t.Error(s, p, got, e)
		}
	})
	if slices.Min(sides[:]) == 0 || on == 0 || on == sides[1] {
		t.Error("not all are there", sides, on)
	}
}

func TestSideAndOnRows(t *testing.T) {
	for _, c := range []struct {
		s    api.Seg
		p    string
		side int
		on   bool
	}{
		{line(0, 0, 2, 0), "1 -1/2", -1, false}, {line(2, 0, 0, 0), "1 -1/2", 1, false}, {line(0, 0, 2, 0), "1 1/18446744073709551615", 1, false},
		{line(0, 0, 2, 2), "1 1", 0, true}, {line(0, 0, 2, 2), "3 3", 0, false}, {line(0, 0, 2, 2), "-1 -1", 0, false}, {line(0, 0, 2, 2), "0 0", 0, true}, {line(0, 0, 2, 2), "2 2", 0, true},
		{line(2, 2, 0, 0), "1/2 1/2", 0, true}, {line(2, 2, 0, 0), "5/2 5/2", 0, false}, {line(2, 2, 0, 0), "-1/2 -1/2", 0, false},
		{line(1, 0, 1, 3), "1 1/3", 0, true}, {line(1, 3, 1, 0), "1 3", 0, true}, {line(1, 0, 1, 3), "1 10/3", 0, false}, {line(1, 0, 1, 3), "1 -1/3", 0, false}, {line(1, 0, 1, 3), "2/3 1", 1, false},
		{line(0, 0, 3, 1), "1 1/3", 0, true}, {line(0, 0, 3, 1), "1 1/2", 1, false}, {line(0, 3, 3, 0), "3/2 3/2", 0, true}, {line(0, 3, 3, 0), "7/2 -1/2", 0, false}, {line(3, 0, 0, 3), "1 1", 1, false},
		{line(-most, -most, most, most), "79228162514264337593543950335 79228162514264337593543950335", 0, false},
		{line(-most, -most, most, most), "79228162514264337593543950335 79228162514264337593543950334", -1, false},
		{line(-most, -most, most, most), "1/18446744073709551615 1/18446744073709551614", 1, false},
		{line(-most, -most, most, most), "1/18446744073709551615 1/18446744073709551615", 0, true},
		{line(-most, most, most, -most), "-79228162514264337593543950335/18446744073709551614 79228162514264337593543950335/18446744073709551614", 0, false},
	} {
		p := at(c.p).point()
		if n, e := seg.Side(c.s, p); n != c.side || e != api.OK {
			t.Error(c.s, c.p, n, e)
		}
		if is, e := seg.On(c.s, p); is != c.on || e != api.OK {
			t.Error(c.s, c.p, is, e)
		}
	}
}

func TestSideAndOnOfWhatMayNotBe(t *testing.T) {
	wrong := func(s api.Seg, p api.Point) {
		if n, e := seg.Side(s, p); n != 0 || e != api.ErrArg {
			t.Error(s, p, n, e)
		}
		if is, e := seg.On(s, p); is || e != api.ErrArg {
			t.Error(s, p, is, e)
		}
	}
	points := badPoints()
	for _, p := range points {
		wrong(line(0, 0, 2, 1), p)
		wrong(line(0, 0, 0, 0), p)
	}
	for _, s := range badSegments() {
		for _, p := range []string{"1 1", "0 0", "1/2 -1/3"} {
			wrong(s, at(p).point())
		}
		wrong(s, points[0])
	}
}

// ahead tells the order of nodes, as the document has it.
func ahead(a, b api.Node) bool {
	return a.X < b.X || a.X == b.X && a.Y < b.Y
}

func TestLaidAndSame(t *testing.T) {
	all := segments()
	for i, s := range all {
		turned := api.Seg{A: s.B, B: s.A}
		wanted := s
		if ahead(s.B, s.A) {
			wanted = turned
		}
		if got, e := seg.Laid(s); got != wanted || e != api.OK {
			t.Error(s, got, e)
		}
		if !seg.Same(s, s) || !seg.Same(s, turned) || !seg.Same(turned, s) {
			t.Error(s, "is not the same")
		}
		for _, other := range all[:i] {
			if seg.Same(s, other) != (other == turned) {
				t.Error(s, other)
			}
		}
	}
	for _, s := range badSegments() {
		if got, e := seg.Laid(s); got != (api.Seg{}) || e != api.ErrArg {
			t.Error(s, got, e)
		}
		turned := api.Seg{A: s.B, B: s.A}
		if seg.Same(s, s) || seg.Same(s, turned) || seg.Same(s, line(0, 0, 1, 1)) || seg.Same(line(0, 0, 1, 1), s) || seg.Same(s, api.Seg{}) {
			t.Error(s, "is the same as something")
		}
	}
}

func TestLaidRows(t *testing.T) {
	for _, c := range []struct{ s, want api.Seg }{
		{line(2, 0, 1, 5), line(1, 5, 2, 0)}, {line(1, 5, 2, 0), line(1, 5, 2, 0)}, {line(1, 5, 1, -5), line(1, -5, 1, 5)}, {line(1, -5, 1, 5), line(1, -5, 1, 5)},
		{line(most, 0, -most, 0), line(-most, 0, most, 0)}, {line(3, most, 3, -most), line(3, -most, 3, most)}, {line(0, 1, -1, 1), line(-1, 1, 0, 1)},
	} {
		if got, e := seg.Laid(c.s); got != c.want || e != api.OK {
			t.Error(c.s, got, e)
		}
	}
}

func TestTextAndParse(t *testing.T) {
	for _, c := range []struct {
		s    api.Seg
		want string
	}{
		{line(0, 0, 1, -2), "0 0,1 -2"}, {line(1, -2, 0, 0), "1 -2,0 0"}, {line(-10, 0, 0, 120), "-10 0,0 120"},
		{line(most, -most, -most, most), "67108864 -67108864,-67108864 67108864"}, {line(7, 7, 7, 8), "7 7,7 8"},
	} {
		if s, e := seg.Text(c.s); s != c.want || e != api.OK {
			t.Error(c.s, s, e)
		}
		if got, e := seg.Parse(c.want); got != c.s || e != api.OK {
			t.Error(c.want, got, e)
		}
	}
	for _, s := range badSegments() {
		if text, e := seg.Text(s); text != "" || e != api.ErrArg {
			t.Error(s, text, e)
		}
	}
}

func TestParseOfNoText(t *testing.T) {
	many := strings.Repeat("9", 1<<16)
	for _, s := range []string{
		"", ",", ",,", " ", " , ", "0", "0 0", "0 0,", ",0 0", "0,0", "0 0 1 1", "0,0 1,1", "0,0,1,1", "0 0;1 1", "0 0 ,1 1", "0 0, 1 1", " 0 0,1 1", "0 0,1 1 ", "0  0,1 1", "0 0,1  1",
		"0 0,1 1,", ",0 0,1 1", "0 0,,1 1", "0 0,1 1,2 2", "0 0,1 1,0 0", "0 0,1 1,x", "0 0,1 1 2", "0 0 0,1 1", "0 0,1", "0,1 1", "0 0,1 1\n", "0\t0,1 1", "0\u00a00,1 1", "0 0\uff0c1 1", "0 0,1 1\x00",
		"0 0,0 0", "5 -7,5 -7", "67108864 0,67108864 0", // of one node
		"1/2 0,1 1", "0 1/2,1 1", "0 0,1/2 1", "0 0,1 1/2", "2/1 0,1 1", "0 0,4/2 1", "0/1 0,1 1", // of points
		"00 0,1 1", "0 0,01 1", "-0 0,1 1", "0 0,1 -01", "+1 0,1 1", "0 0,1 +1", "- 0,1 1", "0 0,1 -", "1e0 0,1 1", "0x1 0,1 1", "1.0 0,1 1", "1_0 0,1 1", "x 0,1 1", "\u0661 0,1 1", "\xff 0,1 1", "0 0,1 \xff",
		"67108865 0,0 0", "0 67108865,0 0", "0 0,-67108865 0", "0 0,0 -67108865", "9223372036854775808 0,0 1", "0 0,18446744073709551617 1", "0 0,1 -18446744073709551616", "4294967296 0,1 1", // too far
		"79228162514264337593543950336 0,0 1", many + " 0,0 1", "0 0,1 -" + many, many + " " + many + "," + many + " " + many, // too great for a point's
		many, strings.Repeat(",", 1<<16), strings.Repeat("0 0,", 1<<16), strings.Repeat(" ", 1<<16), "SEGMENT(0 0,1 1)", "(0 0,1 1)",
	} {
		if got, e := seg.Parse(s); got != (api.Seg{}) || e != api.ErrSeg {
			t.Error(s[:min(len(s), 300)], got, e)
		}
	}
}

// ends are A and B of each, put together here.
func ends(l []api.Seg) []api.Node {
	var all []api.Node
	for _, s := range l {
		all = append(all, s.A, s.B)
	}
	return all
}

func TestNodes(t *testing.T) {
	l := append(segments()[:20], line(3, 1, 2, 0), line(3, 1, 2, 0), line(2, 0, 3, 1), line(2, 0, 7, 7))
	l = append(l, badSegments()...) // they are told as they stand
	wanted := ends(l)
	went := seg.Nodes(l...)
	for range 2 {
		if got := slices.Collect(went); !slices.Equal(got, wanted) {
			t.Fatal(got)
		}
	}
	for many := range len(wanted) {
		var got []api.Node
		for n := range went {
			if got = append(got, n); len(got) > many {
				break
			}
		}
		if !slices.Equal(got, wanted[:many+1]) {
			t.Fatal(many, got)
		}
	}
	if got := slices.Collect(went); !slices.Equal(got, wanted) {
		t.Error("another one when it was left", got)
	}
	for _, none := range [][]api.Seg{nil, {}} {
		for n := range seg.Nodes(none...) {
			t.Error(n)
		}
	}
}

func TestNodesWithin(t *testing.T) {
	l := []api.Seg{line(0, 0, 1, 2), line(1, 2, 3, 4)}
	wanted := ends(l)
	went := seg.Nodes(l...)
	outer := 0
	for n := range went {
		if n != wanted[outer] || !slices.Equal(slices.Collect(went), wanted) {
			t.Error(outer, n)
		}
		outer++
	}
	if outer != len(wanted) {
		t.Error(outer)
	}
}

// What is handed in is neither kept nor changed, nor is the spare room behind it.
func TestNodesKeepsNothing(t *testing.T) {
	room := []api.Seg{line(0, 0, 1, 2), line(5, 6, 3, 4), line(7, 8, 9, 9)}
	kept := slices.Clone(room)
	wanted := ends(room[:2])
	went := seg.Nodes(room[:2]...)
	if got := slices.Collect(went); !slices.Equal(got, wanted) || !slices.Equal(room, kept) {
		t.Error(got, room)
	}
	clear(room)
	if got := slices.Collect(went); !slices.Equal(got, wanted) {
		t.Error(got)
	}
}
