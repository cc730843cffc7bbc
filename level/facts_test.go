package level_test

import (
	"math"
	"math/big"
	"slices"
	"testing"

	"merestone/api"
	"merestone/limb"
	"merestone/point"
	"merestone/ratio"
)

// most is the greatest coordinate of a node.
const most = 1 << 26

// must is the answer, where there is one.
func must[T any](t *testing.T, answer T, e api.Errno) T {
	t.Helper()
	if e != api.OK {
		t.Fatal(e)
	}
	return answer
}

// piece is a segment by its coordinates.
func piece(ax, ay, bx, by int64) api.Seg {
	return api.Seg{A: api.Node{X: ax, Y: ay}, B: api.Node{X: bx, Y: by}}
}

// turned is the segment with its ends changed.
func turned(s api.Seg) api.Seg {
	return api.Seg{A: s.B, B: s.A}
}

// whole is a whole number as big has it.
func whole(n int64) *big.Rat {
	return new(big.Rat).SetInt64(n)
}

// number is the number of a text.
func number(text string) *big.Rat {
	x, ok := new(big.Rat).SetString(text)
	if !ok {
		panic(text)
	}
	return x
}

// fraction is the Rat of a number.
func fraction(x *big.Rat) api.Rat {
	r, e := ratio.Parse(x.RatString())
	if e != api.OK {
		panic(x)
	}
	return r
}

// at is the point of a text.
func at(text string) api.Point {
	p, e := point.Parse(text)
	if e != api.OK {
		panic(text)
	}
	return p
}

// spans tells if x is between the X of both ends.
func spans(s api.Seg, x *big.Rat) bool {
	return x.Cmp(whole(min(s.A.X, s.B.X))) >= 0 && x.Cmp(whole(max(s.A.X, s.B.X))) <= 0
}

// upright tells if both ends have one X.
func upright(s api.Seg) bool {
	return s.A.X == s.B.X
}

// slope is how much it rises.
func slope(s api.Seg) *big.Rat {
	return big.NewRat(s.B.Y-s.A.Y, s.B.X-s.A.X)
}

// height is that of a segment at x.
func height(s api.Seg, x *big.Rat) *big.Rat {
	y := new(big.Rat).Sub(x, whole(s.B.X))
	return y.Add(y.Mul(y, slope(s)), whole(s.B.Y))
}

// above tells where a point of this x is, which s spans, and of this y.
func above(s api.Seg, x, y *big.Rat) int {
	if !upright(s) {
		return y.Cmp(height(s, x))
	}
	switch {
	case y.Cmp(whole(max(s.A.Y, s.B.Y))) > 0:
		return 1
	case y.Cmp(whole(min(s.A.Y, s.B.Y))) < 0:
		return -1
	}
	return 0
}

// lower tells who is lower at x.
func lower(s, o api.Seg, x *big.Rat) int {
	if c := height(s, x).Cmp(height(o, x)); c != 0 {
		return c
	}
	return slope(s).Cmp(slope(o))
}

// segments are all such between nodes of which some are of one line, near one another and at the bound.
func segments() []api.Seg {
	var nodes []api.Node
	for _, c := range [][2]int64{{0, 0}, {1, 0}, {3, 0}, {0, 1}, {0, 3}, {1, 1}, {3, 3}, {2, 1}, {-5, 2},
		{-most, -most}, {most, most}, {most, -most}, {-most, most}, {most, most - 1}, {1 - most, -most}, {0, most}} {
		nodes = append(nodes, api.Node{X: c[0], Y: c[1]})
	}
	var l []api.Seg
	for _, a := range nodes {
		for _, b := range nodes {
			if a != b {
				l = append(l, api.Seg{A: a, B: b})
			}
		}
	}
	return l
}

// little is less than what lies between two nodes.
func little() *big.Rat {
	return number("1/18446744073709551615")
}

// columns are such x as a point may have: at ends, between them, close beside them, and far from all.
func columns() []*big.Rat {
	l := []*big.Rat{
		number("1/2"), number("-1/3"), number("7/3"), number("12345678901234567/9876543210123"), number("-1234567890123456789012345/18446744073709551614"),
		number("79228162514264337593543950335"), number("-79228162514264337593543950335"), number("79228162514264337593543950334/18446744073709551615"), whole(1 << 32), whole(-1 << 32), whole(math.MaxInt64),
		number("1237940039285380274832785407/18446744073709551615"), number("-1237940039285380274832785407/18446744073709551615"), // near the bound, within
	}
	for _, c := range []int64{0, 1, 2, 3, -5, most, -most, most - 1, 1 - most} {
		l = append(l, whole(c))
	}
	for _, c := range []int64{0, 1, 3, -5} {
		l = append(l, new(big.Rat).Add(whole(c), little()), new(big.Rat).Sub(whole(c), little()))
	}
	part := number("1/1073741824")
	for _, c := range []int64{most, -most} {
		l = append(l, new(big.Rat).Add(whole(c), part), new(big.Rat).Sub(whole(c), part))
	}
	return l
}

// each hands over all these segments with all these x.
func each(do func(s api.Seg, x *big.Rat)) {
	all := columns()
	for _, s := range segments() {
		for _, x := range all {
			do(s, x)
		}
	}
}

// fits tells if a point may have this number.
func fits(x *big.Rat) bool {
	return x.Num().BitLen() <= 96 && x.Denom().BitLen() <= 64
}

// badSegments are segments that may not be: from a node to itself, and with ends that may not be.
func badSegments() []api.Seg {
	l := []api.Seg{{}, piece(1, 1, 1, 1), piece(most, -most, most, -most)}
	for _, c := range []int64{most + 1, -most - 1, 1 << 27, 1 << 32, -1 << 32, math.MaxInt64, math.MinInt64, math.MinInt64 + 1} {
		l = append(l, piece(c, 0, 1, 1), piece(0, c, 1, 1), piece(0, 0, c, 1), piece(0, 0, 1, c), piece(c, c, c, c), piece(c, 0, -c, 0))
	}
	return l
}

// badNumbers are such as no point may have.
func badNumbers() []api.Rat {
	full := [4]uint64{math.MaxUint64, math.MaxUint64, math.MaxUint64, math.MaxUint64}
	return []api.Rat{
		{}, {N: limb.Of(1)}, {N: limb.Of(0), D: limb.Of(2)}, {N: limb.Of(2), D: limb.Of(4)}, {N: limb.Of(1), D: limb.Of(-2)}, {N: limb.Of(-1), D: limb.Of(-1)},
		{N: api.Int{Neg: true}, D: limb.Of(1)}, {N: limb.Of(1), D: api.Int{Neg: true}}, {N: limb.Of(1), D: limb.Of(0)},
		{N: api.Int{Mag: [4]uint64{0, 1 << 32}}, D: limb.Of(1)}, {N: api.Int{Mag: [4]uint64{1, 0, 0, 1}, Neg: true}, D: limb.Of(1)}, // of an N that is too great
		{N: limb.Of(1), D: api.Int{Mag: [4]uint64{0, 1}}}, {N: limb.Of(1), D: api.Int{Mag: full}}, {N: limb.Of(0), D: api.Int{Mag: full}}, // of such a D
	}
}

// lists hands over segments at an x that they all span, none of them upright, of all lengths below many, the same at
// each run. Many of them meet there, and some are there twice, or turned.
func lists(many int, do func(x *big.Rat, l []api.Seg)) {
	seed := uint64(88172645463325252)
	next := func(n int) int {
		seed ^= seed << 13
		seed ^= seed >> 7
		seed ^= seed << 17
		return int(seed % uint64(n))
	}
	for _, x := range columns() {
		fit := slices.DeleteFunc(segments(), func(s api.Seg) bool { return upright(s) || !spans(s, x) })
		if len(fit) == 0 {
			continue
		}
		for n := range many {
			var l []api.Seg
			for range n {
				l = append(l, fit[next(len(fit))])
			}
			if n > 1 {
				l = append(l, l[next(n)], turned(l[next(n)]))
			}
			do(x, l)
		}
	}
}
