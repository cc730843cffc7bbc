package check_test

import (
	"math/big"
	"slices"
	"testing"

	"merestone/api"
	"merestone/check"
)

// told is a number as a point's Rat; false, if it is too great for one.
func told(f *big.Rat) (api.Rat, bool) {
	return api.Rat{N: words(f.Num()), D: words(f.Denom())}, f.Num().BitLen() <= 96 && f.Denom().BitLen() <= 64
}

// words is a number below 2^128 as an Int.
func words(n *big.Int) api.Int {
	m := new(big.Int).Abs(n)
	return api.Int{Neg: n.Sign() < 0, Mag: [4]uint64{new(big.Int).And(m, new(big.Int).SetUint64(1<<64-1)).Uint64(), new(big.Int).Rsh(m, 64).Uint64()}}
}

// toldPair is coordinates as a point; false, if they are too great for one.
func toldPair(x, y *big.Rat) (api.Point, bool) {
	px, may := told(x)
	py, mayToo := told(y)
	return api.Point{X: px, Y: py}, may && mayToo
}

// number is that of a text.
func number(text string) *big.Rat {
	f, ok := new(big.Rat).SetString(text)
	if !ok {
		panic(text)
	}
	return f
}

// laid is a plan so many times as great, so far to the right and up; false, if its points are too great then.
func laid(p api.Plan, times, right, up *big.Rat) (api.Plan, bool) {
	var l []api.Point
	for _, at := range p.Points {
		x, _ := fraction(at.X)
		y, _ := fraction(at.Y)
		far, may := toldPair(x.Add(x.Mul(x, times), right), y.Add(y.Mul(y, times), up))
		if !may {
			return api.Plan{}, false
		}
		l = append(l, far)
	}
	return api.Plan{Points: l, Edges: p.Edges}, true
}

func TestOfPointsThatNoCurvesMake(t *testing.T) {
	went := 0
	lists(63, 9, func(l []api.Curve) {
		s := made(t, l...)
		for _, c := range []struct{ times, right, up string }{
			{"1", "0", "0"}, {"1", "79228162514264337593000000000", "-79228162514264337593000000000"}, {"1099511627776", "-7", "1/3"}, {"1/1099511627776", "0", "1"}, {"7/3", "18446744073709551615/2", "1/2"},
			{"1/9223372036854775808", "-1/9223372036854775808", "5"}, {"1000000000000000000000", "1", "-1/1024"},
		} {
			p, may := laid(s.Plan, number(c.times), number(c.right), number(c.up))
			if !may {
				continue
			}
			far := rebuilt(p)
			if k := check.Flaw(far); k != api.FlawNone || flawOf(far) != k || !check.Euler(far) || !sameMesh(far.Mesh, s.Mesh) {
				t.Fatal(l, c, k, flawOf(far))
			}
			went++
		}
	})
	if went < 99 {
		t.Error("little was laid", went)
	}
}

// lined is a structure of one edge, from a to b.
func lined(a, b api.Point, w api.Way) api.Structure {
	return rebuilt(api.Plan{Points: []api.Point{a, b}, Edges: []api.Edge{{A: 0, B: 1, Way: w, IDs: []int64{1}}}})
}

func TestWaysFromAToBAreToldExactly(t *testing.T) {
	for _, c := range []struct {
		what string
		a, b string
		way  api.Way
		want api.FlawKind
	}{
		{"along", "0 0", "79228162514264337593543950335 0", api.Way{X: 1}, api.FlawNone}, {"up", "0 -79228162514264337593543950335", "0 79228162514264337593543950335", api.Way{Y: 1}, api.FlawNone},
		{"along, all of it", "-79228162514264337593543950335 -79228162514264337593543950335", "79228162514264337593543950335 79228162514264337593543950335", api.Way{X: 1, Y: 1}, api.FlawNone},
		{"one below the end", "-79228162514264337593543950335 -79228162514264337593543950335", "79228162514264337593543950335 79228162514264337593543950334", api.Way{X: 1, Y: 1}, api.FlawEdge},
		{"higher by 2^64", "0 0", "1 18446744073709551616", api.Way{X: 1}, api.FlawEdge}, {"lower by 2^64", "0 0", "1 -18446744073709551616", api.Way{X: 1}, api.FlawEdge},
		{"higher by 2^95", "0 0", "1 39614081257132168796771975168", api.Way{X: 1}, api.FlawEdge}, {"farther by 2^95", "0 0", "39614081257132168796771975168 1", api.Way{Y: 1}, api.FlawEdge},
		{"by 2^32, where a denominator is 2^63", "1/9223372036854775808 1/9223372036854775808", "3/9223372036854775808 39614081257132168796771975169/9223372036854775808", api.Way{X: 1}, api.FlawEdge}, // what is held against one another differs by 2^284
		{"with a denominator of 2^64 - 1", "1/18446744073709551615 0", "2/18446744073709551615 1/18446744073709551615", api.Way{X: 1, Y: 1}, api.FlawNone},
		{"little above", "1/18446744073709551615 0", "2/18446744073709551615 1/18446744073709551614", api.Way{X: 1, Y: 1}, api.FlawEdge},
		{"of unlike denominators", "1/3 1/5", "4/3 -4/5", api.Way{X: 1, Y: -1}, api.FlawNone}, {"the other way", "1/3 1/5", "4/3 -4/5", api.Way{X: 1, Y: 1}, api.FlawEdge},
		{"back", "1/3 1/5", "4/3 -4/5", api.Way{X: -1, Y: 1}, api.FlawEdge}, {"down, where it goes up", "1/3 1/5", "1/3 6/5", api.Way{Y: -1}, api.FlawEdge},
		{"a way at the bound", "0 0", "134217728 1", api.Way{X: 1 << 27, Y: 1}, api.FlawNone}, {"a way past the bound", "0 0", "134217729 1", api.Way{X: 1<<27 + 1, Y: 1}, api.FlawEdge},
		{"one upwards past the bound", "0 0", "1 134217729", api.Way{X: 1, Y: 1<<27 + 1}, api.FlawEdge}, {"one downwards past the bound", "0 0", "1 -134217729", api.Way{X: 1, Y: -1<<27 - 1}, api.FlawEdge},
		{"the farthest way", "-67108864 -67108864", "67108864 67108863", api.Way{X: 1 << 27, Y: 1<<27 - 1}, api.FlawNone}, {"the one beside", "-67108864 -67108864", "67108864 67108863", api.Way{X: 1<<27 - 1, Y: 1<<27 - 2}, api.FlawEdge},
	} {
		s := lined(spot(c.a), spot(c.b), c.way)
		if k := check.Flaw(s); k != c.want || flawOf(s) != k {
			t.Error(c.what, k, flawOf(s))
		}
	}
}

func TestWaysBetweenGreatPoints(t *testing.T) {
	below := dice()
	long := func(bits int) *big.Int {
		n := new(big.Int)
		for n.BitLen() < bits {
			n.Add(n.Lsh(n, 24), big.NewInt(int64(1+below(1<<24))))
		}
		return n.Rsh(n, uint(n.BitLen()-bits))
	}
	short := func() int64 { return int64(1 + below(1<<27)) }
	far := func(n, d *big.Int, by *big.Rat) *big.Rat {
		f := new(big.Rat).SetFrac(n, d)
		return f.Sub(f, by)
	}
	var right, wrong int
	for n := range 3000 {
		w := api.Way{X: short(), Y: []int64{1, -1, 0}[n%3] * short()}
		divisor := new(big.Int).GCD(nil, nil, big.NewInt(w.X), big.NewInt(max(w.Y, -w.Y))).Int64()
		w.X, w.Y = w.X/divisor, w.Y/divisor
		by := new(big.Rat).SetInt(long(1 + below(68)))
		dx, dy := long(1+below(64)), long(1+below(64))
		x, y := far(long(1+below(95)), dx, new(big.Rat)), far(long(1+below(95)), dy, new(big.Rat).SetInt64(int64(below(1<<30))))
		toX, toY := new(big.Rat).Mul(by, new(big.Rat).SetInt64(w.X)), new(big.Rat).Mul(by, new(big.Rat).SetInt64(w.Y))
		toX.Add(toX, x)
		toY.Add(toY, y)
		little := new(big.Rat).SetFrac(big.NewInt(1), dy)
		for _, up := range []*big.Rat{new(big.Rat), little, new(big.Rat).Neg(little), new(big.Rat).SetInt64(1 << 62)} {
			a, may := toldPair(x, y)
			b, mayToo := toldPair(toX, new(big.Rat).Add(toY, up))
			if !may || !mayToo {
				continue
			}
			s := lined(a, b, w)
			k := check.Flaw(s)
			if want := flawOf(s); k != want || (k == api.FlawNone) != (up.Sign() == 0) {
				t.Fatal(s, k, want)
			}
			if k == api.FlawNone {
				right++
			} else {
				wrong++
			}
		}
	}
	if right < 999 || wrong < 999 {
		t.Error("not all are there", right, wrong)
	}
}

func TestPointsAtTheBound(t *testing.T) {
	least, greatest := spot("-79228162514264337593543950335 -79228162514264337593543950335"), spot("79228162514264337593543950335 79228162514264337593543950335")
	if s := lined(least, greatest, api.Way{X: 1, Y: 1}); check.Flaw(s) != api.FlawNone {
		t.Error(s)
	}
	for i, p := range wrongPoints() {
		for at := range 3 {
			s := rebuilt(api.Plan{Points: slices.Insert([]api.Point{least, greatest}, at, p), Edges: lined(least, greatest, api.Way{X: 1, Y: 1}).Plan.Edges})
			if k := check.Flaw(s); k != api.FlawPoint || flawOf(s) != k {
				t.Error(i, at, k, flawOf(s))
			}
		}
		if k := check.Flaw(rebuilt(api.Plan{Points: []api.Point{p}})); k != api.FlawPoint {
			t.Error(i, k)
		}
	}
}
