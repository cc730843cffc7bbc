package point_test

import (
	"math"
	"math/big"
	"slices"
	"strings"
	"testing"

	"merestone/api"
	"merestone/limb"
	"merestone/point"
	"merestone/ratio"
)

// power is 2^n and more.
func power(n uint, more int64) *big.Int {
	b := new(big.Int).Lsh(big.NewInt(1), n)
	return b.Add(b, big.NewInt(more))
}

// top and below are the greatest N and D that a point's Rats may have.
func top() *big.Int   { return power(96, -1) }
func below() *big.Int { return power(64, -1) }

// over is n over d.
func over(n, d *big.Int) *big.Rat { return new(big.Rat).SetFrac(n, d) }

// integer is an Int of a number that is small enough for one.
func integer(b *big.Int) api.Int {
	a, e := limb.Parse(b.String())
	if e != api.OK {
		panic(e)
	}
	return a
}

// rat is a Rat of a fraction that is small enough for one.
func rat(b *big.Rat) api.Rat {
	return api.Rat{N: integer(b.Num()), D: integer(b.Denom())}
}

// pair is n over d as it stands.
func pair(n, d int64) api.Rat {
	return api.Rat{N: limb.Of(n), D: limb.Of(d)}
}

// value is a Rat's.
func value(x api.Rat) *big.Rat {
	s, e := ratio.Text(x)
	b, ok := new(big.Rat).SetString(s)
	if e != api.OK || !ok {
		panic(s)
	}
	return b
}

// fits tells if a fraction is small enough for a point's.
func fits(b *big.Rat) bool {
	return b.Num().BitLen() <= 96 && b.Denom().BitLen() <= 64
}

// want is what an exact answer is told as.
func want(x, y *big.Rat) (api.Point, api.Errno) {
	if !fits(x) || !fits(y) {
		return api.Point{}, api.ErrOver
	}
	return api.Point{X: rat(x), Y: rat(y)}, api.OK
}

// at is the point of a text, read here.
func at(s string) api.Point {
	x, y, _ := strings.Cut(s, " ")
	a, ok := new(big.Rat).SetString(x)
	b, both := new(big.Rat).SetString(y)
	if !ok || !both {
		panic(s)
	}
	return api.Point{X: rat(a), Y: rat(b)}
}

// told is a point that may be, to be read in a failure.
func told(p api.Point) string {
	if p == (api.Point{}) {
		return "nothing"
	}
	return value(p.X).RatString() + " " + value(p.Y).RatString()
}

// same fails if an answer is not the one that is wanted.
func same(t *testing.T, what string, got api.Point, e api.Errno, wanted api.Point, wantedErrno api.Errno) {
	t.Helper()
	if got != wanted || e != wantedErrno {
		t.Errorf("%s: %v %d, not %s %d", what, got, e, told(wanted), wantedErrno)
	}
}

// rats are such as a point may have: those at the bounds and where words end, of both signs, nought and whole ones.
func rats() []api.Rat {
	var l []api.Rat
	for _, n := range []*big.Int{new(big.Int), power(0, 0), power(0, 2), power(26, 0), power(63, 0), power(64, 0), power(95, 1), power(96, -2), top()} {
		for _, d := range []*big.Int{power(0, 0), power(1, 0), power(63, 0), power(64, -2), below()} {
			l = append(l, rat(over(n, d)), rat(over(new(big.Int).Neg(n), d)))
		}
	}
	slices.SortFunc(l, func(a, b api.Rat) int { return value(a).Cmp(value(b)) })
	return slices.Compact(l)
}

// points are such as may be, of all these Rats, and many of one X.
func points() []api.Point {
	l := rats()
	var all []api.Point
	for i, x := range l {
		all = append(all, api.Point{X: x, Y: l[(i+7)%len(l)]}, api.Point{X: l[i%5*13], Y: x})
	}
	for x := range int64(4) {
		for y := range int64(4) {
			all = append(all, api.Point{X: pair(x-2, 1), Y: pair(y-2, 1)}, api.Point{X: pair(2*x-5, 2), Y: pair(3*y-7, 3)})
		}
	}
	return all
}

// pairs hands over each two of them.
func pairs(do func(a, b api.Point)) {
	l := points()
	for _, a := range l {
		for _, b := range l {
			do(a, b)
		}
	}
}

// wrong are Rats that no point may have: ones that may not be, and too great ones.
func wrong() []api.Rat {
	minusNought := api.Int{Neg: true}
	l := []api.Rat{
		{}, pair(1, 0), pair(0, 2), pair(0, -1), pair(1, -1), pair(-3, -2), pair(2, 4), pair(-15, 21), pair(7, 7),
		{N: minusNought, D: limb.Of(1)}, {N: limb.Of(1), D: minusNought}, {N: minusNought, D: minusNought},
		{N: integer(power(96, -2)), D: integer(power(1, 0))}, // not in lowest terms
	}
	great := []*big.Int{power(96, 0), power(96, 1), power(128, 1), power(192, 1), power(256, -1)}
	for _, n := range great {
		l = append(l, tooGreat(n, power(0, 0)), tooGreat(new(big.Int).Neg(n), power(0, 0)), tooGreat(n, power(64, -3)))
	}
	for _, d := range append(great, power(64, 0), power(64, 1)) {
		l = append(l, tooGreat(power(0, 0), d), tooGreat(power(0, -2), d), tooGreat(power(95, 9), d))
	}
	return l
}

// tooGreat is a Rat that may be, and is too great for a point's.
func tooGreat(n, d *big.Int) api.Rat {
	b := over(n, d)
	if fits(b) {
		panic(b.String())
	}
	return rat(b)
}

// bad are points that may not be, by X, by Y, and by both.
func bad() []api.Point {
	l := []api.Point{{}}
	for _, x := range wrong() {
		l = append(l, api.Point{X: x, Y: pair(1, 2)}, api.Point{X: pair(-3, 1), Y: x}, api.Point{X: x, Y: x})
	}
	return l
}

// ends are coordinates at the bound of a node's, and past it.
func ends() []int64 {
	return []int64{0, 1, -1, 1 << 26, -1 << 26, 1<<26 + 1, -1<<26 - 1, 1 << 27, 1 << 32, 1<<32 + 1, math.MaxInt64, math.MinInt64, math.MinInt64 + 1}
}

// nodes hands over each node of these, and if it may be.
func nodes(do func(n api.Node, may bool)) {
	may := func(c int64) bool { return c >= -1<<26 && c <= 1<<26 }
	for _, x := range ends() {
		for _, y := range ends() {
			do(api.Node{X: x, Y: y}, may(x) && may(y))
		}
	}
}

func TestCheckAndOf(t *testing.T) {
	nodes(func(n api.Node, may bool) {
		wanted, errno := api.Point{}, api.ErrArg
		if may {
			wanted, errno = api.Point{X: pair(n.X, 1), Y: pair(n.Y, 1)}, api.OK
		}
		if e := point.Check(n); e != errno {
			t.Error(n, e)
		}
		got, e := point.Of(n)
		same(t, "Of", got, e, wanted, errno)
	})
}

func TestRight(t *testing.T) {
	for _, p := range points() {
		if e := point.Right(p); e != api.OK {
			t.Error(told(p), e)
		}
	}
	for _, p := range bad() {
		if e := point.Right(p); e != api.ErrArg {
			t.Error(p, e)
		}
	}
	for _, x := range wrong() {
		if e := point.Right(api.Point{X: x, Y: pair(0, 1)}); e != api.ErrArg {
			t.Error("X", x, e)
		}
	}
}

func TestGrid(t *testing.T) {
	nodes(func(n api.Node, may bool) {
		wanted := n
		if !may {
			wanted = api.Node{}
		}
		if got, ok := point.Grid(api.Point{X: pair(n.X, 1), Y: pair(n.Y, 1)}); got != wanted || ok != may {
			t.Error(n, got, ok)
		}
	})
	none := append(bad(), at("1/2 0"), at("0 1/2"), at("-3/2 -1/2"), at("1 1/67108864"), at("18446744073709551617 0"), at("0 18446744073709551617"), at("79228162514264337593543950335 1"))
	for _, p := range none {
		if n, ok := point.Grid(p); n != (api.Node{}) || ok {
			t.Error(p, n, ok)
		}
	}
}

// turned is the order by big.
func turned(a, b api.Point) int {
	if c := value(a.X).Cmp(value(b.X)); c != 0 {
		return c
	}
	return value(a.Y).Cmp(value(b.Y))
}

func TestCmp(t *testing.T) {
	pairs(func(a, b api.Point) {
		if c, e := point.Cmp(a, b); c != turned(a, b) || e != api.OK {
			t.Error(told(a), told(b), c, e)
		}
	})
	for _, c := range []struct {
		a, b string
		want int
	}{
		{"0 0", "0 0", 0}, {"0 5", "1 -5", -1}, {"1 -5", "0 5", 1}, {"1/2 1/3", "1/2 1/2", -1}, {"1/3 1", "1/2 0", -1},
		{"-1/2 0", "-1/3 -9", -1}, {"-1 2", "-1 -2", 1}, {"-7/3 -7/3", "-7/3 -7/3", 0}, {"1 1", "1 1/2", 1},
	} {
		if got, e := point.Cmp(at(c.a), at(c.b)); got != c.want || e != api.OK {
			t.Error(c.a, c.b, got, e)
		}
	}
}

func TestMid(t *testing.T) {
	tooGreat, half := 0, big.NewRat(1, 2)
	middle := func(a, b api.Rat) *big.Rat {
		x := new(big.Rat).Add(value(a), value(b))
		return x.Mul(x, half)
	}
	pairs(func(a, b api.Point) {
		wanted, errno := want(middle(a.X, b.X), middle(a.Y, b.Y))
		got, e := point.Mid(a, b)
		same(t, "Mid", got, e, wanted, errno)
		if errno != api.OK {
			tooGreat++
		}
	})
	if tooGreat == 0 {
		t.Error("no middle was too great")
	}
	most, least := top().String(), "1/"+below().String()
	for _, c := range []struct{ a, b, want string }{
		{"0 0", "1 2", "1/2 1"}, {"1/2 1/3", "1/2 1/3", "1/2 1/3"}, {"-1 1", "1 -1", "0 0"}, {"1/2 -1/2", "1/6 1/3", "1/3 -1/12"},
		{most + " 0", most + " -" + most, most + " -" + most + "/2"},
		{least + " 0", least + " 1", least + " 1/2"},
		{"1/9223372036854775809 0", "1/9223372036854775809 0", "1/9223372036854775809 0"},
	} {
		got, e := point.Mid(at(c.a), at(c.b))
		same(t, c.a+" to "+c.b, got, e, at(c.want), api.OK)
	}
	for _, c := range [][2]string{{"0 " + least, "0 0"}, {least + " 0", "0 0"}, {"1/4294967296 1", "1/4294967297 1"}, {most + " 0", most + "/2 0"}, {"1 -" + most, "1 -" + most + "/2"}} {
		got, e := point.Mid(at(c[0]), at(c[1]))
		same(t, c[0]+" to "+c[1], got, e, api.Point{}, api.ErrOver)
	}
}

func TestMove(t *testing.T) {
	tooGreat := 0
	far := append(ends(), 3, -4)
	moved := func(x api.Rat, d int64) *big.Rat {
		return new(big.Rat).Add(value(x), new(big.Rat).SetInt64(d))
	}
	for _, p := range points() {
		for i, dx := range far {
			dy := far[(i*i+3)%len(far)]
			wanted, errno := want(moved(p.X, dx), moved(p.Y, dy))
			got, e := point.Move(p, dx, dy)
			same(t, told(p), got, e, wanted, errno)
			if errno != api.OK {
				tooGreat++
			}
		}
	}
	if tooGreat == 0 {
		t.Error("nothing was moved too far")
	}
	most := top().String()
	for _, c := range []struct {
		p      string
		dx, dy int64
		want   string
	}{{"1/2 -3", 1, 2, "3/2 -1"}, {"0 0", 0, 0, "0 0"}, {"-7/3 5/2", -1, -3, "-10/3 -1/2"}, {most + " 1", -1, 0, "79228162514264337593543950334 1"}, {most + " -" + most, 0, 0, most + " -" + most}} {
		got, e := point.Move(at(c.p), c.dx, c.dy)
		same(t, c.p, got, e, at(c.want), api.OK)
	}
	for _, c := range []struct {
		p      string
		dx, dy int64
	}{{most + " 0", 1, 0}, {"0 " + most, 0, 1}, {"-" + most + " 0", -1, 0}, {"0 -" + most, 0, -1}, {most + "/2 0", 1, 0}, {"1/" + below().String() + " 0", math.MaxInt64, 0}, {"0 1/" + below().String(), 0, math.MinInt64}} {
		got, e := point.Move(at(c.p), c.dx, c.dy)
		same(t, c.p, got, e, api.Point{}, api.ErrOver)
	}
}

func TestSort(t *testing.T) {
	l := points()
	for i := range 40 {
		l = append(l, l[i*3])
	}
	wanted := slices.CompactFunc(slices.SortedFunc(slices.Values(l), turned), func(a, b api.Point) bool { return a == b })
	if len(wanted) == len(l) {
		t.Fatal("none is there twice")
	}
	for n := 0; n < len(l); n += 13 {
		given := append(slices.Clone(l[n:]), l[:n]...)
		slices.Reverse(given[:n])
		kept := slices.Clone(given)
		got, e := point.Sort(given...)
		if !slices.Equal(got, wanted) || e != api.OK {
			t.Fatal(n, len(got), len(wanted), e)
		}
		if !slices.Equal(given, kept) {
			t.Fatal("what was handed in has changed")
		}
		clear(got)
		if !slices.Equal(given, kept) {
			t.Fatal("the answer is what was handed in")
		}
	}
}

func TestSortRows(t *testing.T) {
	for _, c := range []struct{ of, want string }{
		{"", ""}, {"1 2", "1 2"}, {"1 2,1 2,1 2", "1 2"}, {"1 0,0 1,0 0", "0 0,0 1,1 0"}, {"0 0,0 1,1 0", "0 0,0 1,1 0"},
		{"1/2 0,1/3 0,-1/2 0,1/2 -1/9", "-1/2 0,1/3 0,1/2 -1/9,1/2 0"}, {"2 1,1 2,2 1,1 2,2 0", "1 2,2 0,2 1"},
	} {
		got, e := point.Sort(read(c.of)...)
		if !slices.Equal(got, read(c.want)) || e != api.OK {
			t.Error(c.of, got, e)
		}
	}
	for _, none := range [][]api.Point{nil, {}} {
		if got, e := point.Sort(none...); len(got) != 0 || e != api.OK {
			t.Error(got, e)
		}
	}
}

// read is the points of texts, parted by commas.
func read(s string) []api.Point {
	var l []api.Point
	for text := range strings.SplitSeq(s, ",") {
		if text != "" {
			l = append(l, at(text))
		}
	}
	return l
}

// What is handed in has spare room behind it, which stays as it was.
func TestSortLeavesSpareRoom(t *testing.T) {
	room := read("3 3,2 2,2 2,1 1")
	if _, e := point.Sort(room[:3]...); e != api.OK || !slices.Equal(room, read("3 3,2 2,2 2,1 1")) {
		t.Error(room, e)
	}
}

func TestOfBadPoints(t *testing.T) {
	good := append([]api.Point{at("1/2 -3"), at(top().String() + " 0")}, bad()...)
	for _, p := range bad() {
		for _, q := range good {
			for _, c := range [][2]api.Point{{p, q}, {q, p}} {
				if n, e := point.Cmp(c[0], c[1]); n != 0 || e != api.ErrArg {
					t.Error(c, n, e)
				}
				got, e := point.Mid(c[0], c[1])
				same(t, "Mid", got, e, api.Point{}, api.ErrArg)
				if l, e := point.Sort(c[0], c[1]); len(l) != 0 || e != api.ErrArg {
					t.Error(c, l, e)
				}
			}
		}
		for _, d := range ends() {
			got, e := point.Move(p, d, -1)
			same(t, "Move", got, e, api.Point{}, api.ErrArg)
		}
		if l, e := point.Sort(p); len(l) != 0 || e != api.ErrArg {
			t.Error(p, l, e)
		}
		if s, e := point.Text(p); s != "" || e != api.ErrArg {
			t.Error(p, s, e)
		}
	}
}

func TestTextAndParse(t *testing.T) {
	for _, p := range points() {
		s, e := point.Text(p)
		if s != told(p) || e != api.OK {
			t.Error(told(p), s, e)
		}
		got, e := point.Parse(told(p))
		same(t, told(p), got, e, p, api.OK)
	}
	for _, s := range []string{"0 0", "1/2 -3", "-7/3 120", top().String() + " -" + top().String() + "/2", "1/" + below().String() + " 0"} {
		if text, e := point.Text(at(s)); text != s || e != api.OK {
			t.Error(s, text, e)
		}
		got, e := point.Parse(s)
		same(t, s, got, e, at(s), api.OK)
	}
}

func TestParseOfNoText(t *testing.T) {
	many, large := strings.Repeat("9", 100), power(96, 0).String()
	for _, s := range []string{
		"", " ", "  ", "1", "-7/3", "1 ", " 1", "1,2", "1\t2", "1\n2", "1\u00a02", "1  2", " 1 2", "1 2 ", "1 2 3", "1 2\n", "1/2", "1/2/3 4",
		"x 1", "1 x", "- 1", "1 -", "+1 2", "1 +2", "01 2", "1 02", "-0 1", "1 -0", "1.5 2", "1 1e3", "\xff 1", "1 \xff", "1 2\x00", "\u0661 2", "1 \u0661",
		"4/6 1", "1 4/6", "1/1 0", "0 1/1", "1/0 0", "0 1/0", "1/-2 0", "0 1/-2", "0/2 1", "1 /2", "1/ 2",
		many, large, many + ",1", // no blank
		many + " x", "x " + many, many + " 4/6", "4/6 " + many, many + " ", " " + many, many + " " + many + " ", many + " 1 2", "0" + many + " 1", "1 -0" + many, // no Rat's on the other side of a too great one
		large + " x", "x " + large, large + " 1/1", "2/4 " + large, large + " 1 2", large + "/2 1", "1 " + large + "/4", // 2^96/4 is not in lowest terms
		strings.Repeat("9", 1<<20), strings.Repeat(" ", 1<<20),
	} {
		got, e := point.Parse(s)
		if got != (api.Point{}) || e != api.ErrPoint {
			t.Error(s[:min(len(s), 300)], got, e)
		}
	}
}

func TestParseOfTooGreat(t *testing.T) {
	for _, x := range []string{
		power(96, 0).String(), "-" + power(96, 0).String(), power(96, 0).String() + "/3", "1/" + power(64, 0).String(), "-1/" + power(64, 1).String(),
		power(128, 0).String(), power(192, 0).String(), power(256, -1).String(), "1/" + power(128, 0).String(), "1/" + power(256, -1).String(), // for a point
		power(256, 0).String(), "-" + power(256, 0).String(), power(256, 0).String() + "/2", "1/" + power(256, 0).String(), "1/" + strings.Repeat("9", 1<<16), // for a Rat
	} {
		for _, s := range []string{x + " 1/2", "-3 " + x, x + " " + x} {
			got, e := point.Parse(s)
			if got != (api.Point{}) || e != api.ErrOver {
				t.Error(s[:min(len(s), 300)], got, e)
			}
		}
	}
}
