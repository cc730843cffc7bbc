package wkt_test

import (
	"fmt"
	"math"
	"math/big"
	"regexp"
	"slices"
	"strings"

	"merestone/api"
	"merestone/limb"
	"merestone/point"
)

// most is the greatest coordinate of a node.
const most = 1 << 26

// nodes are those of these coordinates.
func nodes(c ...int64) []api.Node {
	var l []api.Node
	for i := 0; i+1 < len(c); i += 2 {
		l = append(l, api.Node{X: c[i], Y: c[i+1]})
	}
	return l
}

// line is a shape that is a segment.
func line(ax, ay, bx, by int64) api.Shape {
	return api.Shape{IsSeg: true, Seg: api.Seg{A: api.Node{X: ax, Y: ay}, B: api.Node{X: bx, Y: by}}}
}

// area is a shape that is rings.
func area(rings ...[]api.Node) api.Shape {
	return api.Shape{Rings: rings}
}

// around are so many corners of a ring.
func around(many int) []api.Node {
	var l []api.Node
	for i := range int64(many) {
		l = append(l, api.Node{X: i * (i % 7), Y: -i})
	}
	return l
}

// triples are so many rings of three corners.
func triples(many int) [][]api.Node {
	var l [][]api.Node
	for i := range int64(many) {
		l = append(l, nodes(i, 0, i+1, 0, i, 1))
	}
	return l
}

// copied is the shape in memory of its own.
func copied(s api.Shape) api.Shape {
	s.Rings = slices.Clone(s.Rings)
	for i, l := range s.Rings {
		s.Rings[i] = slices.Clone(l)
	}
	return s
}

// alike tells if two shapes are the same, corner by corner.
func alike(a, b api.Shape) bool {
	return a.IsSeg == b.IsSeg && a.Seg == b.Seg && slices.EqualFunc(a.Rings, b.Rings, slices.Equal[[]api.Node])
}

// isNought tells if a shape is the zero one.
func isNought(s api.Shape) bool {
	return !s.IsSeg && s.Seg == api.Seg{} && s.Rings == nil
}

// check is what is told of a shape.
func check(s api.Shape) api.Errno {
	far := func(n api.Node) bool { return n.X < -most || n.X > most || n.Y < -most || n.Y > most }
	if s.IsSeg {
		if len(s.Rings) != 0 || s.Seg.A == s.Seg.B || far(s.Seg.A) || far(s.Seg.B) {
			return api.ErrArg
		}
		return api.OK
	}
	if len(s.Rings) == 0 || s.Seg != (api.Seg{}) {
		return api.ErrArg
	}
	var all []api.Node
	for _, l := range s.Rings {
		if len(l) < 3 || slices.ContainsFunc(l, far) {
			return api.ErrArg
		}
		all = append(all, l...)
	}
	if len(all) > 512 {
		return api.ErrLong
	}
	return api.OK
}

// text is that of a shape that may be.
func text(s api.Shape) string {
	if s.IsSeg {
		return fmt.Sprintf("SEGMENT(%d %d,%d %d)", s.Seg.A.X, s.Seg.A.Y, s.Seg.B.X, s.Seg.B.Y)
	}
	var rings []string
	for _, l := range s.Rings {
		var corners []string
		for i := range len(l) + 1 {
			corners = append(corners, fmt.Sprintf("%d %d", l[i%len(l)].X, l[i%len(l)].Y))
		}
		rings = append(rings, strings.Join(corners, ","))
	}
	return "POLYGON((" + strings.Join(rings, "),(") + "))"
}

// A node's text, and those of shapes, but for how great numbers are and which corners are the same.
const (
	nodeForm = `(?:0|-?[1-9][0-9]*) (?:0|-?[1-9][0-9]*)`
	ringForm = `\(` + nodeForm + `(?:,` + nodeForm + `)*\)`
)

var (
	segmentForm = regexp.MustCompile(`\ASEGMENT\((` + nodeForm + `),(` + nodeForm + `)\)\z`)
	polygonForm = regexp.MustCompile(`\APOLYGON\((` + ringForm + `(?:,` + ringForm + `)*)\)\z`)
)

// nodeOf is the node whose text it is; false, if it is too far off.
func nodeOf(text string) (n api.Node, is bool) {
	x, y, _ := strings.Cut(text, " ")
	is = true
	for _, c := range []struct {
		text string
		to   *int64
	}{{x, &n.X}, {y, &n.Y}} {
		b, ok := new(big.Int).SetString(c.text, 10)
		if !ok || b.CmpAbs(big.NewInt(most)) > 0 {
			return api.Node{}, false
		}
		*c.to = b.Int64()
	}
	return n, is
}

// ringOf are the corners whose texts, and the first one's once more, are parted by commas.
func ringOf(text string) (l []api.Node, is bool) {
	for word := range strings.SplitSeq(text, ",") {
		n, is := nodeOf(word)
		if !is {
			return nil, false
		}
		l = append(l, n)
	}
	if len(l) < 4 || l[0] != l[len(l)-1] {
		return nil, false
	}
	return l[1:], true // from the second corner on: the first one is the last
}

// parse is what is told of a text.
func parse(s string) (api.Shape, api.Errno) {
	if len(s) > 1<<20 {
		return api.Shape{}, api.ErrLong
	}
	if m := segmentForm.FindStringSubmatch(s); m != nil {
		a, is := nodeOf(m[1])
		b, are := nodeOf(m[2])
		if !is || !are || a == b {
			return api.Shape{}, api.ErrWkt
		}
		return line(a.X, a.Y, b.X, b.Y), api.OK
	}
	m := polygonForm.FindStringSubmatch(s)
	if m == nil {
		return api.Shape{}, api.ErrWkt
	}
	var shape api.Shape
	many := 0
	for word := range strings.SplitSeq(m[1][1:len(m[1])-1], "),(") {
		l, is := ringOf(word)
		if !is {
			return api.Shape{}, api.ErrWkt
		}
		shape.Rings = append(shape.Rings, append(l[len(l)-1:len(l):len(l)], l[:len(l)-1]...))
		many += len(l)
	}
	if many > 512 {
		return api.Shape{}, api.ErrLong
	}
	return shape, api.OK
}

// drawn hands out numbers below n, the same at each run.
func drawn() func(n int) int {
	seed := uint64(88172645463325252)
	return func(n int) int {
		seed ^= seed << 13
		seed ^= seed >> 7
		seed ^= seed << 17
		return int(seed % uint64(n))
	}
}

// good are shapes that may be, of all kinds, no two the same.
func good() []api.Shape {
	l := []api.Shape{
		line(0, 0, 1, 2), line(1, 2, 0, 0), line(-10, 0, 0, 120), line(most, -most, -most, most), line(most-1, most, most, most), line(7, 7, 7, 8),
		area(nodes(0, 0, 2, 0, 0, 2)), area(nodes(2, 0, 0, 2, 0, 0)), area(nodes(0, 2, 2, 0, 0, 0)), area(nodes(0, 0, 4, 0, 4, 4, 0, 4)),
		area(nodes(0, 0, 4, 0, 4, 4, 0, 4), nodes(1, 1, 1, 3, 3, 3, 3, 1)), area(nodes(1, 1, 1, 3, 3, 3, 3, 1), nodes(0, 0, 4, 0, 4, 4, 0, 4)), area(nodes(0, 0, 2, 0, 0, 2), nodes(0, 0, 2, 0, 0, 2)),
		area(nodes(-most, -most, most, -most, most, most, -most, most)), area(nodes(-67108864, 10, 100, -1000, 10000, 67108863)),
		area(nodes(0, 0, 2, 2, 2, 0, 0, 2)), area(nodes(0, 0, 1, 0, 2, 0)), area(nodes(0, 0, 2, 0, 0, 2, 0, 0)), area(nodes(1, 1, 1, 1, 1, 1)), area(nodes(0, 0, 0, 0, 2, 0)), area(nodes(0, 0, 2, 0, 0, 0)), area(nodes(0, 0, 3, 0, 0, 3), nodes(1, 1, 9, 1, 1, 9)), // no such are simple, or apart
		area(around(511)), area(around(512)), area(around(509), nodes(0, 0, 2, 0, 0, 2)), area(triples(170)...), area(append(triples(169), around(5))...),
	}
	draw := drawn()
	for range 200 {
		var s api.Shape
		for range 1 + draw(4) {
			var ring []api.Node
			for range 3 + draw(5) {
				ring = append(ring, api.Node{X: int64(draw(2*most+1)) - most, Y: int64(draw(21)) - 10})
			}
			s.Rings = append(s.Rings, ring)
		}
		l = append(l, s)
	}
	return l
}

// badNodes are such as may not be.
func badNodes() []api.Node {
	var l []api.Node
	for _, c := range []int64{most + 1, -most - 1, 1 << 27, 1 << 32, -1 << 32, 1<<32 + 1, math.MaxInt64, math.MinInt64, math.MinInt64 + 1} {
		l = append(l, nodes(c, 1, 1, c, c, c, -most, c)...)
	}
	return l
}

// wrong are shapes that may not be, whatever else is there of them.
func wrong() []api.Shape {
	three := nodes(0, 0, 2, 0, 0, 2)
	segment := line(0, 0, 1, 2).Seg
	l := []api.Shape{
		{}, {IsSeg: true}, line(5, 5, 5, 5), line(most, 0, most, 0), {Rings: [][]api.Node{}}, // nothing is there
		{IsSeg: true, Seg: segment, Rings: [][]api.Node{three}}, {IsSeg: true, Seg: segment, Rings: [][]api.Node{nil}}, {IsSeg: true, Rings: [][]api.Node{three}}, {IsSeg: true, Seg: segment, Rings: triples(171)},
		{Seg: segment}, {Seg: segment, Rings: [][]api.Node{three}}, {Seg: segment, Rings: [][]api.Node{around(513)}}, {Seg: api.Seg{A: api.Node{Y: 1}}, Rings: [][]api.Node{three}}, {Seg: api.Seg{B: api.Node{X: -1}}, Rings: [][]api.Node{three}}, {Seg: api.Seg{A: api.Node{X: 1}, B: api.Node{X: 1}}, Rings: [][]api.Node{three}},
	}
	for _, few := range [][]api.Node{nil, {}, nodes(0, 0), nodes(0, 0, 1, 0)} {
		l = append(l, area(few), area(three, few), area(few, three), area(around(513), few), area(few, around(513)), area(append(triples(171), few)...))
	}
	for _, n := range badNodes() {
		l = append(l, api.Shape{IsSeg: true, Seg: api.Seg{A: n}}, api.Shape{IsSeg: true, Seg: api.Seg{B: n}}, api.Shape{IsSeg: true, Seg: api.Seg{A: n, B: n}})
		for at := range 3 {
			ring := slices.Clone(three)
			ring[at] = n
			l = append(l, area(ring), area(three, ring), area(ring, three), area(around(512), ring), area(ring, around(513)))
		}
		l = append(l, area(append(around(511), n)), area(append(around(512), n)))
	}
	return l
}

// long are shapes of too many corners, with nothing else wrong.
func long() []api.Shape {
	return []api.Shape{area(around(513)), area(around(100000)), area(around(512), nodes(0, 0, 1, 0, 0, 1)), area(nodes(0, 0, 1, 0, 0, 1), around(510)), area(triples(171)...), area(append(triples(169), around(6))...), area(triples(20000)...)}
}

// at is the point of a text.
func at(text string) api.Point {
	p, e := point.Parse(text)
	if e != api.OK {
		panic(text)
	}
	return p
}

// points are those whose texts are parted by commas.
func points(texts string) []api.Point {
	var l []api.Point
	for text := range strings.SplitSeq(texts, ",") {
		l = append(l, at(text))
	}
	return l
}

// badPoints are such as may not be.
func badPoints() []api.Point {
	l := []api.Point{{}}
	one := at("1 1").X
	for _, x := range []api.Rat{
		{}, {N: limb.Of(1)}, {N: limb.Of(0), D: limb.Of(2)}, {N: limb.Of(2), D: limb.Of(4)}, {N: limb.Of(1), D: limb.Of(-2)}, {N: limb.Of(-1), D: limb.Of(-1)},
		{N: api.Int{Neg: true}, D: limb.Of(1)}, {N: limb.Of(1), D: api.Int{Neg: true}},
		{N: api.Int{Mag: [4]uint64{0, 1 << 32}}, D: limb.Of(1)}, {N: limb.Of(1), D: api.Int{Mag: [4]uint64{0, 1}}}, // of an N, a D that is too great
	} {
		l = append(l, api.Point{X: x, Y: one}, api.Point{X: one, Y: x}, api.Point{X: x, Y: x})
	}
	return l
}
