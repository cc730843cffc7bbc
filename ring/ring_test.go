package ring_test

import (
	"iter"
	"math/big"
	"slices"
	"testing"

	"merestone/api"
	"merestone/ring"
)

func TestCheck(t *testing.T) {
	told := map[api.Errno]int{}
	few(func(l []api.Node) {
		wanted := check(l)
		told[wanted]++
		if e := ring.Check(l...); e != wanted {
			t.Fatal(l, e)
		}
	})
	if told[api.OK] < 100 || told[api.ErrSimple] < 100 {
		t.Error("not all are there", told)
	}
	for _, l := range valid() {
		if e := ring.Check(l...); e != api.OK {
			t.Error(l, e)
		}
	}
}

func TestCheckRows(t *testing.T) {
	for _, c := range []struct {
		l    []api.Node
		want api.Errno
	}{
		{nodes(0, 0, 2, 0, 0, 2), api.OK}, {nodes(0, 0, 0, 2, 2, 0), api.OK}, {nodes(0, 0, 2, 2, 2, 0, 0, 2), api.ErrSimple}, {nodes(0, 0, 1, 0), api.ErrLong},
		{nil, api.ErrLong}, {[]api.Node{}, api.ErrLong}, {nodes(0, 0), api.ErrLong}, {nodes(1, 1, 1, 1), api.ErrLong},
		{nodes(0, 0, 1, 0, 2, 0), api.ErrSimple}, {nodes(0, 0, 2, 0, 1, 0), api.ErrSimple}, {nodes(0, 0, 0, 5, 0, 3), api.ErrSimple}, // it lies in a line
		{nodes(0, 0, 1, 0, 2, 0, 0, 2), api.OK}, {nodes(1, 0, 2, 0, 0, 2, 0, 0), api.OK}, {nodes(2, 0, 0, 2, 0, 0, 1, 0), api.OK}, // straight on
		{nodes(0, 0, 3, 0, 2, 0, 0, 2), api.ErrSimple}, {nodes(3, 0, 2, 0, 0, 2, 0, 0), api.ErrSimple}, {nodes(2, 0, 0, 2, 0, 0, 3, 0), api.ErrSimple}, {nodes(0, 2, 0, 0, 3, 0, 2, 0), api.ErrSimple}, // and back
		{nodes(0, 0, 0, 0, 2, 0, 0, 2), api.ErrSimple}, {nodes(0, 0, 2, 0, 0, 2, 0, 2), api.ErrSimple}, {nodes(0, 0, 2, 0, 0, 2, 0, 0), api.ErrSimple}, {nodes(1, 1, 1, 1, 1, 1), api.ErrSimple}, // twice
		{nodes(0, 0, 1, 1, 2, 0, 2, 2, 1, 1, 0, 2), api.ErrSimple}, {nodes(0, 0, 4, 0, 2, 2, 4, 4, 0, 4, 2, 2), api.ErrSimple}, // a corner is there again
		{nodes(0, 0, 4, 0, 4, 4, 2, 0, 0, 4), api.ErrSimple}, {nodes(0, 0, 2, 0, 4, 0, 4, 4, 2, 0, 0, 4), api.ErrSimple}, {nodes(0, 0, 4, 0, 4, 4, 2, 1, 0, 4), api.OK}, // a corner on an edge
		{nodes(0, 0, 5, 0, 5, 2, 3, 2, 3, 0, 2, 0, 2, 2, 0, 2), api.ErrSimple}, {nodes(0, 0, 4, 0, 4, 3, 1, 0, 3, 0, 0, 3), api.ErrSimple}, // edges lie on another one
		{nodes(0, 0, 0, 4, 0, 8, 4, 8, 4, 4, -1, 4, -1, 0), api.ErrSimple}, {nodes(0, 0, 3, 0, 3, 3, 1, 3, 1, -1), api.ErrSimple}, // the last edge is crossed
		{nodes(-most, -most, most, -most, most, most, -most, most), api.OK}, {nodes(-most, -most, most, most, most-1, most-1), api.ErrSimple}, {nodes(-most, -most, most, most, most-1, most), api.OK},
		{nodes(-most, -most, most, most-1, most, most, -most, 1-most), api.OK}, {nodes(-most, -most, most, most-1, -most, 1-most, most, most), api.ErrSimple}, {nodes(-most, -most, most, most, -most, 1-most, most, most-1), api.ErrSimple},
		{nodes(most+1, 0, 0, 0, 0, 1), api.ErrArg}, {nodes(0, 0, 1, 0, 0, -most-1), api.ErrArg},
	} {
		if e := ring.Check(c.l...); e != c.want {
			t.Error(c.l, e)
		}
	}
}

func TestHowManyCorners(t *testing.T) {
	for many, want := range map[int]api.Errno{3: api.OK, 4: api.OK, 511: api.OK, 512: api.OK, 513: api.ErrLong, 514: api.ErrLong, 100000: api.ErrLong} {
		l := comb(many)
		if e := ring.Check(l...); e != want {
			t.Error(many, e)
		}
		if _, e := ring.Area(l...); e != want {
			t.Error(many, e)
		}
		if _, e := ring.Where(at("1 1"), l...); e != want {
			t.Error(many, e)
		}
		if got, e := ring.Laid(l...); e != want || (len(got) == many) != (want == api.OK) {
			t.Error(many, len(got), e)
		}
		if is, e := ring.Apart(l, nodes(0, -9, 1, -9, 1, -8)); e != want || is != (want == api.OK) {
			t.Error(many, is, e)
		}
		if got := slices.Collect(ring.Edges(l...)); (len(got) == many) != (want == api.OK) || want != api.OK && got != nil {
			t.Error(many, len(got))
		}
	}
}

// Each edge is held against each other one, however many there are: one corner is laid on an edge far off.
func TestAnyTwoEdges(t *testing.T) {
	const high = 40
	var around []api.Node
	for x := range int64(high) {
		around = append(around, api.Node{X: 2 * x})
	}
	for x := range int64(high) {
		around = append(around, api.Node{X: 2 * (high - 1 - x), Y: 10})
	}
	if e := ring.Check(around...); e != api.OK {
		t.Fatal(e)
	}
	for up := 1; up < high-1; up++ {
		for down := range high - 1 {
			l := slices.Clone(around)
			l[up] = api.Node{X: 2*int64(high-1-down) - 1, Y: 10} // in the middle of an edge above
			if e := ring.Check(l...); e != api.ErrSimple {
				t.Fatal(up, down, e)
			}
			l = append(l[7:], l[:7]...)
			if e := ring.Check(l...); e != api.ErrSimple {
				t.Fatal(up, down, e)
			}
		}
	}
}

func TestArea(t *testing.T) {
	signs := map[int]int{}
	few(func(l []api.Node) {
		wanted := area(l)
		signs[wanted.Sign()]++
		if n, e := ring.Area(l...); big.NewInt(n).Cmp(wanted) != 0 || e != api.OK {
			t.Fatal(l, n, e)
		}
	})
	if len(signs) != 3 {
		t.Error("not all are there", signs)
	}
	var often []api.Node
	for range 128 {
		often = append(often, nodes(-most, -most, most, -most, most, most, -most, most)...)
	}
	for _, c := range []struct {
		l    []api.Node
		want int64
	}{
		{nodes(0, 0, 2, 0, 0, 2), 4}, {nodes(0, 2, 2, 0, 0, 0), -4}, {nodes(0, 0, 2, 2, 2, 0, 0, 2), 0}, {nodes(0, 0, 1, 0, 2, 0), 0}, {nodes(1, 1, 1, 1, 1, 1), 0}, {nodes(0, 0, 4, 0, 4, 4, 0, 4), 32}, {nodes(0, 0, 0, 0, 2, 0, 0, 2), 4},
		{nodes(-most, -most, most, -most, most, most, -most, most), 1 << 55}, {nodes(-most, most, most, most, most, -most, -most, -most), -1 << 55}, {nodes(-most, -most, most, most, most-1, most), 1 << 27},
		{often, 1 << 62}, {turned(often), -1 << 62},
	} {
		if n, e := ring.Area(c.l...); n != c.want || e != api.OK {
			t.Error(c.l, n, e)
		}
	}
}

// turned is the ring, the other way round.
func turned(l []api.Node) []api.Node {
	l = slices.Clone(l)
	slices.Reverse(l)
	return l
}

func TestEdges(t *testing.T) {
	few(func(l []api.Node) {
		if got := slices.Collect(ring.Edges(l...)); !slices.Equal(got, sides(l)) {
			t.Fatal(l, got)
		}
	})
	for _, l := range [][]api.Node{nodes(2, 0, 0, 0, 0, 2), nodes(0, 0, 2, 2, 2, 0, 0, 2), nodes(0, 0, 0, 0, 2, 0, 0, 2), nodes(1, 1, 1, 1, 1, 1), comb(512)} {
		if got := slices.Collect(ring.Edges(l...)); !slices.Equal(got, sides(l)) {
			t.Error(l, got)
		}
	}
	for _, l := range [][]api.Node{nil, {}, nodes(0, 0), nodes(0, 0, 1, 0), comb(513)} {
		for s := range ring.Edges(l...) {
			t.Error(len(l), s)
		}
	}
}

// some are what is gone over, left after so many, but for 0.
func some(edges iter.Seq[api.Seg], many int) []api.Seg {
	var l []api.Seg
	for s := range edges {
		if l = append(l, s); len(l) == many {
			break
		}
	}
	return l
}

func TestEdgesAreLeftAndGoneOverAgain(t *testing.T) {
	l := nodes(0, 0, 4, 0, 4, 4, 2, 1, 0, 4)
	wanted := sides(l)
	edges := ring.Edges(l...)
	clear(l) // what was handed in is not kept
	for many := range wanted {
		if got := some(edges, many+1); !slices.Equal(got, wanted[:many+1]) {
			t.Error(many, got)
		}
		if got := some(edges, 0); !slices.Equal(got, wanted) {
			t.Error("again", many, got)
		}
	}
	for range edges { // one within the other
		if got := some(edges, 0); !slices.Equal(got, wanted) {
			t.Error(got)
		}
	}
}

// grid hands over spots from one end to the other one of a square, with steps of a part of one.
func grid(far int64, part int64, do func(p spot)) {
	for x := -far * part; x <= far*part; x++ {
		for y := -far * part; y <= far*part; y++ {
			do(spot{big.NewRat(x, part), big.NewRat(y, part)})
		}
	}
}

func TestWhere(t *testing.T) {
	told := map[int]int{}
	ask := func(l []api.Node, p spot) {
		wanted := where(p, l)
		told[wanted]++
		if n, e := ring.Where(p.point(), l...); n != wanted || e != api.OK {
			t.Fatal(l, p, n, e)
		}
	}
	for _, l := range valid() {
		if len(l) < 20 && slices.MaxFunc(l, order).X < 20 {
			grid(3, 2, func(p spot) { ask(l, p) })
		}
	}
	went := 0
	few(func(l []api.Node) { // simple or not
		if went++; went%13 == 0 {
			grid(2, 1, func(p spot) { ask(l, p) })
			for _, p := range []spot{spotOf("1/2", "1/2"), spotOf("3/2", "1/3"), spotOf("1/3", "7/5"), spotOf("-1/2", "0")} {
				ask(l, p)
			}
		}
	})
	if min(told[-1], told[0], told[1]) < 1000 {
		t.Error("not all are there", told)
	}
}

func TestWhereAtTheBounds(t *testing.T) {
	told := map[int]int{}
	little := big.NewRat(1, 1<<36)
	drawn(600, func(l []api.Node) {
		for _, s := range sides(l)[:3] {
			middle := spot{big.NewRat(s.A.X+s.B.X, 2), big.NewRat(s.A.Y+s.B.Y, 2)}
			for _, dx := range []*big.Rat{new(big.Rat), little, new(big.Rat).Neg(little)} {
				for _, dy := range []*big.Rat{new(big.Rat), little, new(big.Rat).Neg(little)} {
					for _, p := range []spot{middle, {whole(s.A.X), whole(s.A.Y)}, {whole(s.A.X), middle.y}} {
						p := spot{new(big.Rat).Add(p.x, dx), new(big.Rat).Add(p.y, dy)}
						wanted := where(p, l)
						told[wanted]++
						if n, e := ring.Where(p.point(), l...); n != wanted || e != api.OK {
							t.Fatal(l, p, n, e)
						}
					}
				}
			}
		}
	})
	if min(told[-1], told[0], told[1]) < 1000 {
		t.Error("not all are there", told)
	}
}

func TestWhereRows(t *testing.T) {
	three, notch := nodes(0, 0, 2, 0, 0, 2), nodes(0, 0, 2, 3, 4, 0, 4, 6, 0, 6)
	bow, twice := nodes(0, 0, 2, 2, 2, 0, 0, 2), nodes(0, 0, 3, 0, 0, 3, 0, 0, 3, 0, 0, 3)
	widest, thin := nodes(-most, -most, most, -most, most, most, -most, most), nodes(-most, -most, most, most, most-1, most)
	still, spot, flat := nodes(0, 0, 0, 0, 2, 0, 2, 0, 0, 2, 0, 2), nodes(1, 1, 1, 1, 1, 1), nodes(0, 0, 4, 4, 2, 2)
	for _, c := range []struct {
		l    []api.Node
		p    string
		want int
	}{
		{three, "1/2 1/2", 1}, {three, "1 0", 0}, {three, "2 2", -1}, {three, "0 0", 0}, {three, "0 2", 0}, {three, "0 1", 0}, {three, "1 1", 0}, {three, "0 3", -1}, {three, "0 -1", -1}, {three, "2 -1", -1}, {three, "2 1", -1}, {three, "-1/2 1/2", -1}, {three, "3 0", -1}, {three, "1 -1", -1},
		{three, "1/18446744073709551615 1/18446744073709551615", 1}, {three, "1/18446744073709551615 0", 0}, {three, "1/18446744073709551615 -1/18446744073709551615", -1}, {three, "-1/18446744073709551615 1", -1},
		{notch, "2 4", 1}, {notch, "2 3", 0}, {notch, "2 1", -1}, {notch, "2 0", -1}, {notch, "1 1", -1}, {notch, "3 1", -1}, {notch, "1 2", 1}, {notch, "3 2", 1}, {notch, "1 3/2", 0}, {notch, "4 -1", -1}, {notch, "0 -1", -1}, {notch, "2 6", 0}, {notch, "2 7", -1}, {notch, "0 3", 0}, {notch, "4 7", -1},
		{bow, "1 1", 0}, {bow, "1 1/2", -1}, {bow, "1 3/2", -1}, {bow, "1/2 1", 1}, {bow, "3/2 1", 1}, {bow, "2 1", 0}, {bow, "0 1", 0}, {bow, "1 5", -1}, // not simple
		{twice, "1 1", -1}, {twice, "3/2 3/2", 0}, {twice, "0 1", 0},
		{still, "1/2 1/2", 1}, {still, "0 0", 0}, {still, "2 -1", -1}, {still, "3/2 3/2", -1}, // an edge whose ends are the same is none
		{spot, "1 1", -1}, {spot, "1 0", -1}, {spot, "0 0", -1},
		{flat, "3 3", 0}, {flat, "3 2", -1}, {flat, "2 2", 0}, {flat, "5 5", -1},
		{widest, "0 0", 1}, {widest, "67108864 67108864", 0}, {widest, "67108865 0", -1}, {widest, "0 -67108865", -1}, {widest, "134217727/2 134217727/2", 1},
		{widest, "0 79228162514264337593543950335", -1}, {widest, "0 -79228162514264337593543950335", -1}, {widest, "79228162514264337593543950335 0", -1}, {widest, "-79228162514264337593543950335 0", -1}, {widest, "18446744073709551616 18446744073709551616", -1}, {widest, "1237940039285380274832785407/18446744073709551615 0", -1}, {widest, "1237940039285380274832015359/18446744073709551615 0", 1}, {widest, "1237940039285380274832015361/18446744073709551615 0", -1},
		{thin, "0 0", 0}, {thin, "0 1/2", 1}, {thin, "0 1/18446744073709551615", 1}, {thin, "0 1", -1}, {thin, "0 -1/18446744073709551615", -1}, {thin, "67108863 67108864", 0}, {thin, "67108863 67108863", 0},
	} {
		if n, e := ring.Where(at(c.p), c.l...); n != c.want || e != api.OK {
			t.Error(c.l, c.p, n, e)
		}
	}
}

func TestWhereRefuses(t *testing.T) {
	refused := func(p api.Point, l []api.Node, wanted api.Errno) {
		if n, e := ring.Where(p, l...); n != 0 || e != wanted {
			t.Error(len(l), n, e)
		}
	}
	three := nodes(0, 0, 2, 0, 0, 2)
	for _, p := range badPoints() {
		for _, l := range [][]api.Node{three, nil, nodes(0, 0), comb(513), nodes(0, 0, 2, 2, 2, 0, 0, 2), nodes(most+1, 0)} {
			refused(p, l, api.ErrArg)
		}
	}
	for _, l := range [][]api.Node{nil, {}, nodes(0, 0), nodes(0, 0, 2, 0), comb(513)} {
		refused(at("1/2 1/2"), l, api.ErrLong)
	}
}

func TestLaid(t *testing.T) {
	for _, l := range valid() {
		wanted := laid(l)
		for _, c := range [][]api.Node{l, turned(l), append(l[2:len(l):len(l)], l[:2]...)} {
			handed := slices.Clone(c)
			got, e := ring.Laid(c...)
			if !slices.Equal(got, wanted) || e != api.OK {
				t.Error(c, got, e)
			}
			clear(got)
			if !slices.Equal(c, handed) {
				t.Error("what was handed in is changed", c)
			}
		}
	}
	few(func(l []api.Node) {
		wanted := check(l)
		if got, e := ring.Laid(l...); e != wanted || (got == nil) != (wanted != api.OK) {
			t.Fatal(l, got, e)
		}
	})
	for _, c := range []struct {
		l, want []api.Node
		e       api.Errno
	}{
		{nodes(2, 0, 0, 0, 0, 2), nodes(0, 0, 2, 0, 0, 2), api.OK}, {nodes(0, 0, 2, 0, 0, 2), nodes(0, 0, 2, 0, 0, 2), api.OK}, {nodes(0, 2, 0, -1, 3, 0), nodes(0, -1, 3, 0, 0, 2), api.OK}, {nodes(1, 5, 2, 5, 0, 9), nodes(0, 9, 1, 5, 2, 5), api.OK}, {nodes(-1, 0, 1, 1, 1, -1), nodes(-1, 0, 1, -1, 1, 1), api.OK},
		{nil, nil, api.ErrLong}, {nodes(0, 0, 1, 0), nil, api.ErrLong}, {nodes(0, 0, 2, 2, 2, 0, 0, 2), nil, api.ErrSimple}, {nodes(0, 0, 1, 1, 2, 2), nil, api.ErrSimple},
	} {
		if got, e := ring.Laid(c.l...); !slices.Equal(got, c.want) || e != c.e {
			t.Error(c, got, e)
		}
	}
}

func TestApart(t *testing.T) {
	told := map[bool]int{}
	var l [][]api.Node
	for _, r := range valid() {
		if len(r) < 20 {
			l = append(l, r)
		}
	}
	rings(3, 3, 3, func(r []api.Node) {
		if simple(r) && order(r[0], r[1]) < 0 && order(r[1], r[2]) < 0 {
			l = append(l, r)
		}
	})
	for _, a := range l {
		for _, b := range l {
			wanted := apart(a, b)
			told[wanted]++
			if is, e := ring.Apart(a, b); is != wanted || e != api.OK {
				t.Fatal(a, b, is, e)
			}
		}
	}
	if len(told) != 2 {
		t.Error("not all are there", told)
	}
}

func TestApartRows(t *testing.T) {
	square := nodes(0, 0, 4, 0, 4, 4, 0, 4)
	for _, c := range []struct {
		l    []api.Node
		want bool
	}{
		{nodes(1, 1, 3, 1, 3, 3, 1, 3), true}, {nodes(9, 9, 10, 9, 9, 10), true}, {nodes(-1, -1, 9, -1, 9, 9, -1, 9), true}, // they meet in nothing
		{nodes(4, 4, 6, 4, 6, 6, 4, 6), true}, {nodes(0, 2, 2, 1, 2, 3), true}, {nodes(2, 0, 4, 2, 2, 4, 0, 2), true}, {nodes(4, 2, 6, 1, 6, 3), true}, {nodes(4, 4, 8, 0, 8, 4), true}, // in points
		{nodes(0, 0, 4, 4, -1, 9), true}, {nodes(2, -2, 6, 2, 6, -2), true}, {nodes(-1, -1, 0, 0, 4, 4, 9, 0), true}, // through corners, also where both share a part of their inside
		{square, false}, {turned(square), false}, {nodes(4, 0, 6, 0, 6, 4, 4, 4), false}, {nodes(1, 0, 3, 0, 2, 1), false}, {nodes(4, 3, 4, 9, 9, 9), false}, // in pieces
		{nodes(2, 2, 6, 2, 6, 6, 2, 6), false}, {nodes(-1, 1, 5, 1, 5, 3, -1, 3), false}, {nodes(2, 2, 9, 3, 2, 3), false}, {nodes(0, 0, 4, 4, 9, 5, 5, 9), false}, // they cross
	} {
		for _, both := range [][2][]api.Node{{square, c.l}, {c.l, square}} {
			if is, e := ring.Apart(both[0], both[1]); is != c.want || e != api.OK {
				t.Error(both, is, e)
			}
		}
	}
	wide := nodes(-most, -most, most, -most, most, most, -most, most)
	for _, c := range []struct {
		l    []api.Node
		want bool
	}{
		{nodes(1-most, 1-most, most-1, 1-most, most-1, most-1), true}, {nodes(-most, -most, most, most, most-1, most-1), false}, {nodes(-most, -most, most-1, most-1, most, most-1), true}, {nodes(-most, 0, 0, -most, most, 0, 0, most), true}, {nodes(most, 0, most, 1, 0, 0), false}, {wide, false},
	} {
		wanted, why := c.want, api.OK
		if !simple(c.l) {
			wanted, why = false, api.ErrSimple
		}
		if is, e := ring.Apart(wide, c.l); is != wanted || e != why {
			t.Error(c, is, e)
		}
	}
}

// What is wrong with the first one is told ahead of what is wrong with the second.
func TestApartRefuses(t *testing.T) {
	good := nodes(0, 0, 2, 0, 0, 2)
	lists := [][]api.Node{nil, {}, nodes(0, 0), comb(513), nodes(0, 0, 2, 2, 2, 0, 0, 2), nodes(0, 0, 0, 0, 1, 1), nodes(most+1, 0, 0, 0, 0, 1), nodes(most+1, 0), good, comb(512)}
	for _, a := range lists {
		for _, b := range lists {
			wanted := check(a)
			if wanted == api.OK {
				wanted = check(b)
			}
			if is, e := ring.Apart(a, b); e != wanted || is && e != api.OK {
				t.Error(a, b, is, e)
			}
		}
	}
}

func TestNodesThatMayNotBe(t *testing.T) {
	good := nodes(0, 0, 2, 0, 0, 2)
	for _, n := range badNodes() {
		for _, l := range [][]api.Node{{n}, {n, n}, {n, n, n}, slices.Insert(slices.Clone(good), 0, n), slices.Insert(slices.Clone(good), 2, n), append(comb(511), n), append(comb(512), n), append(nodes(0, 0, 2, 2, 2, 0, 0, 2), n)} {
			if e := ring.Check(l...); e != api.ErrArg {
				t.Error(n, len(l), e)
			}
			if a, e := ring.Area(l...); a != 0 || e != api.ErrArg {
				t.Error(n, len(l), a, e)
			}
			if w, e := ring.Where(at("1 1"), l...); w != 0 || e != api.ErrArg {
				t.Error(n, len(l), w, e)
			}
			for s := range ring.Edges(l...) {
				t.Error(n, len(l), s)
			}
			if got, e := ring.Laid(l...); got != nil || e != api.ErrArg {
				t.Error(n, len(l), got, e)
			}
			for _, both := range [][2][]api.Node{{l, good}, {good, l}, {l, l}} {
				if is, e := ring.Apart(both[0], both[1]); is || e != api.ErrArg {
					t.Error(n, len(l), is, e)
				}
			}
		}
	}
}

// What is handed in is neither kept nor changed, nor is the spare room behind it; an answer is new memory.
func TestNothingIsKept(t *testing.T) {
	room := nodes(0, 2, 2, 0, 0, 0, 5, 5, 9, 9)
	kept := slices.Clone(room)
	l := room[:3]
	one, _ := ring.Laid(l...)
	other, _ := ring.Laid(l...)
	clear(one)
	if !slices.Equal(other, nodes(0, 0, 2, 0, 0, 2)) {
		t.Error(other)
	}
	ring.Check(l...)
	ring.Area(l...)
	ring.Where(at("1/2 1/2"), l...)
	ring.Apart(l, l)
	for range ring.Edges(l...) {
	}
	if !slices.Equal(room, kept) {
		t.Error("what was handed in is changed", room)
	}
}
