package ratio_test

import (
	"math"
	"math/big"
	"slices"
	"strings"
	"testing"

	"merestone/api"
	"merestone/limb"
	"merestone/ratio"
)

// bound is 2^256: no Int's magnitude reaches it.
var bound = new(big.Int).Lsh(big.NewInt(1), 256)

// power is 2^n and more.
func power(n uint, more int64) *big.Int {
	b := new(big.Int).Lsh(big.NewInt(1), n)
	return b.Add(b, big.NewInt(more))
}

// most is the greatest Int.
func most() *big.Int { return power(256, -1) }

// small is an Int of a number that is small enough for one.
func small(b *big.Int) api.Int {
	a := api.Int{Neg: b.Sign() < 0}
	m := new(big.Int).Abs(b)
	for i := range a.Mag {
		a.Mag[i] = new(big.Int).And(new(big.Int).Rsh(m, uint(64*i)), new(big.Int).SetUint64(math.MaxUint64)).Uint64()
	}
	return a
}

// great is an Int's number.
func great(a api.Int) *big.Int {
	b := new(big.Int)
	for i := 3; i >= 0; i-- {
		b.Add(b.Lsh(b, 64), new(big.Int).SetUint64(a.Mag[i]))
	}
	if a.Neg {
		b.Neg(b)
	}
	return b
}

// over is n over d, in lowest terms, made here.
func over(n, d *big.Int) api.Rat {
	return rat(new(big.Rat).SetFrac(n, d))
}

// rat is a Rat of a fraction that is small enough for one.
func rat(b *big.Rat) api.Rat {
	return api.Rat{N: small(b.Num()), D: small(b.Denom())}
}

// pair is n over d as it stands.
func pair(n, d int64) api.Rat {
	return api.Rat{N: small(big.NewInt(n)), D: small(big.NewInt(d))}
}

// value is a Rat's.
func value(x api.Rat) *big.Rat {
	return new(big.Rat).SetFrac(great(x.N), great(x.D))
}

// want is what an exact answer is told as.
func want(b *big.Rat) (api.Rat, api.Errno) {
	if b.Num().CmpAbs(bound) >= 0 || b.Denom().CmpAbs(bound) >= 0 {
		return api.Rat{}, api.ErrOver
	}
	return rat(b), api.OK
}

// told is a Rat as it stands, to be read in a failure.
func told(x api.Rat) string {
	return great(x.N).String() + "/" + great(x.D).String()
}

// same fails if an answer is not the one that is wanted.
func same(t *testing.T, what string, got api.Rat, e api.Errno, wanted api.Rat, wantedErrno api.Errno) {
	t.Helper()
	if got != wanted || e != wantedErrno {
		t.Errorf("%s: %s %d, not %s %d", what, told(got), e, told(wanted), wantedErrno)
	}
}

// random answers numbers of all sorts, the same at each run.
func random() func() uint64 {
	x := uint64(88172645463325252)
	return func() uint64 {
		x ^= x << 13
		x ^= x >> 7
		x ^= x << 17
		return x
	}
}

// number is one of at most so many bits.
func number(next func() uint64, width uint) *big.Int {
	b := new(big.Int)
	for range 4 {
		b.Add(b.Lsh(b, 64), new(big.Int).SetUint64(next()))
	}
	return b.Rsh(b, 256-width+uint(next()%uint64(width)))
}

// edges are Rats at which words end, of both signs, nought and whole ones among them.
func edges() []api.Rat {
	var l []api.Rat
	tops := []*big.Int{power(0, -1), power(0, 0), power(1, 1), power(63, 0), power(64, -1), power(128, 1), power(255, 0), most()}
	belows := []*big.Int{power(0, 0), power(1, 0), power(1, 1), power(64, -1), power(64, 0), power(128, 0), power(255, 1), power(256, -2), most()}
	for _, n := range tops {
		for _, d := range belows {
			l = append(l, over(n, d), over(new(big.Int).Neg(n), d))
		}
	}
	slices.SortFunc(l, func(a, b api.Rat) int { return strings.Compare(told(a), told(b)) })
	return slices.Compact(l)
}

// mixed are Rats of all widths, some of denominators that have much in common.
func mixed(n int) []api.Rat {
	next := random()
	shared := number(next, 200)
	l := make([]api.Rat, n)
	for i := range l {
		a, b := number(next, 256), number(next, 256)
		if next()%2 == 0 {
			b = new(big.Int).Mul(shared, number(next, 40))
		}
		if next()%2 == 0 {
			a.Neg(a)
		}
		l[i] = over(a, b.Or(b, big.NewInt(1)))
	}
	return l
}

// pairs hands over each pair of edges, and of mixed Rats.
func pairs(do func(a, b api.Rat)) {
	for _, l := range [][]api.Rat{edges(), mixed(80)} {
		for _, a := range l {
			for _, b := range l {
				do(a, b)
			}
		}
	}
}

// bad are Rats that may not be.
func bad() []api.Rat {
	minusNought := api.Int{Neg: true}
	half := api.Int{Mag: [4]uint64{0, 0, 0, 1 << 63}}
	return []api.Rat{
		{}, pair(1, 0), pair(0, 2), pair(0, -1), pair(1, -1), pair(-3, -2), pair(2, 4), pair(-15, 21), pair(7, 7), pair(-4, 2),
		{N: minusNought, D: limb.Of(1)}, {N: limb.Of(1), D: minusNought}, {N: minusNought, D: minusNought},
		{N: minusNought, D: limb.Of(2)}, {N: half, D: half}, {N: limb.Of(6), D: half},
	}
}

func TestCheck(t *testing.T) {
	for _, x := range append(edges(), mixed(200)...) {
		if e := ratio.Check(x); e != api.OK {
			t.Error(told(x), e)
		}
	}
	for _, x := range bad() {
		if e := ratio.Check(x); e != api.ErrArg {
			t.Error(told(x), e)
		}
	}
}

func TestOf(t *testing.T) {
	for _, n := range []int64{0, 1, -1, 120, math.MaxInt64, math.MinInt64} {
		if x := ratio.Of(n); x != pair(n, 1) {
			t.Error(n, told(x))
		}
	}
}

func TestMake(t *testing.T) {
	ints := []*big.Int{new(big.Int)}
	for _, x := range mixed(60) {
		ints = append(ints, great(x.N), great(x.D), new(big.Int).Neg(great(x.D)))
	}
	for _, n := range []*big.Int{power(0, 0), power(1, 0), power(63, 0), power(64, 0), power(255, 0), most()} {
		ints = append(ints, n, new(big.Int).Neg(n))
	}
	for _, n := range ints {
		for _, d := range ints {
			got, e := ratio.Make(small(n), small(d))
			if d.Sign() == 0 {
				same(t, "by nought", got, e, api.Rat{}, api.ErrArg)
				continue
			}
			same(t, "Make", got, e, over(n, d), api.OK)
		}
	}
}

func TestMakeRows(t *testing.T) {
	for _, c := range [][4]int64{{10, -4, -5, 2}, {-10, -4, 5, 2}, {0, -7, 0, 1}, {6, 3, 2, 1}, {3, 1, 3, 1}, {-3, 5, -3, 5}} {
		got, e := ratio.Make(limb.Of(c[0]), limb.Of(c[1]))
		same(t, "Make", got, e, pair(c[2], c[3]), api.OK)
	}
	minusNought := api.Int{Neg: true}
	for _, c := range [][2]api.Int{{limb.Of(3), {}}, {{}, {}}, {minusNought, limb.Of(1)}, {limb.Of(1), minusNought}, {minusNought, {}}} {
		got, e := ratio.Make(c[0], c[1])
		same(t, "Make", got, e, api.Rat{}, api.ErrArg)
	}
}

// put is what two Rats put together are wanted to be.
func put(f func(z, a, b *big.Rat) *big.Rat, a, b api.Rat) (api.Rat, api.Errno) {
	return want(f(new(big.Rat), value(a), value(b)))
}

func TestAddSubMulDiv(t *testing.T) {
	tooGreat := 0
	pairs(func(a, b api.Rat) {
		got, e := ratio.Add(a, b)
		wanted, errno := put((*big.Rat).Add, a, b)
		same(t, told(a)+" + "+told(b), got, e, wanted, errno)
		if errno == api.ErrOver {
			tooGreat++
		}
		got, e = ratio.Sub(a, b)
		wanted, errno = put((*big.Rat).Sub, a, b)
		same(t, told(a)+" - "+told(b), got, e, wanted, errno)
		got, e = ratio.Mul(a, b)
		wanted, errno = put((*big.Rat).Mul, a, b)
		same(t, told(a)+" * "+told(b), got, e, wanted, errno)
		got, e = ratio.Div(a, b)
		wanted, errno = api.Rat{}, api.ErrArg
		if value(b).Sign() != 0 {
			wanted, errno = put((*big.Rat).Quo, a, b)
		}
		same(t, told(a)+" : "+told(b), got, e, wanted, errno)
	})
	if tooGreat == 0 {
		t.Error("no sum was too great")
	}
}

// read is what a text is read as by big, for rows.
func read(s string) api.Rat {
	b, ok := new(big.Rat).SetString(s)
	if !ok {
		panic(s)
	}
	return rat(b)
}

// What one needs on the way is too great for an Int in each row, what is told is none.
func TestTooGreatOnTheWay(t *testing.T) {
	one, top := power(0, 0), most()
	next := power(256, -2) // nothing but 1 divides top, too
	less := power(256, -3)
	for i, c := range []struct {
		f    func(a, b api.Rat) (api.Rat, api.Errno)
		a, b api.Rat
		want api.Rat
	}{
		{ratio.Add, over(one, top), over(next, top), pair(1, 1)},
		{ratio.Add, over(top, power(255, 0)), over(new(big.Int).Neg(next), power(255, 0)), over(one, power(255, 0))},
		{ratio.Sub, over(top, next), over(top, next), pair(0, 1)},
		{ratio.Sub, over(next, top), over(less, top), over(one, top)},
		{ratio.Mul, over(next, top), over(top, next), pair(1, 1)},
		{ratio.Mul, over(top, next), over(next, one), over(top, one)},
		{ratio.Mul, over(new(big.Int).Neg(top), power(200, 0)), over(power(200, 0), top), pair(-1, 1)},
		{ratio.Div, over(next, top), over(next, top), pair(1, 1)},
		{ratio.Div, over(one, top), over(next, top), over(one, next)},
		{ratio.Div, over(top, next), over(new(big.Int).Neg(top), one), over(new(big.Int).Neg(one), next)},
	} {
		if got, e := c.f(c.a, c.b); got != c.want || e != api.OK {
			t.Error(i, told(got), e)
		}
	}
}

func TestTooGreat(t *testing.T) {
	one, top, next := power(0, 0), most(), power(256, -2)
	whole, least := over(top, one), over(one, top)
	for i, c := range []struct {
		f    func(a, b api.Rat) (api.Rat, api.Errno)
		a, b api.Rat
	}{
		{ratio.Add, whole, pair(1, 1)},
		{ratio.Sub, over(new(big.Int).Neg(top), one), pair(1, 1)},
		{ratio.Add, whole, least},
		{ratio.Add, whole, pair(1, 2)},
		{ratio.Add, least, pair(1, 2)},                // the denominator alone
		{ratio.Add, over(next, top), over(next, top)}, // the numerator alone
		{ratio.Mul, whole, pair(2, 1)},
		{ratio.Mul, least, pair(1, 2)},
		{ratio.Div, whole, least},
		{ratio.Div, least, whole},
		{ratio.Div, whole, pair(-1, 2)},
	} {
		got, e := c.f(c.a, c.b)
		if got != (api.Rat{}) || e != api.ErrOver {
			t.Error(i, told(got), e)
		}
	}
}

func TestPutTogetherRows(t *testing.T) {
	for i, c := range []struct {
		f    func(a, b api.Rat) (api.Rat, api.Errno)
		a, b string
		want string
	}{
		{ratio.Add, "1/6", "1/10", "4/15"},
		{ratio.Add, "1/2", "-1/2", "0"},
		{ratio.Add, "0", "-7/3", "-7/3"},
		{ratio.Sub, "1/2", "5/6", "-1/3"},
		{ratio.Sub, "0", "0", "0"},
		{ratio.Mul, "-2/3", "9/4", "-3/2"},
		{ratio.Mul, "0", "-9/4", "0"},
		{ratio.Div, "1/2", "-3/4", "-2/3"},
		{ratio.Div, "0", "-3/4", "0"},
		{ratio.Div, "-3", "-3", "1"},
	} {
		got, e := c.f(read(c.a), read(c.b))
		if got != read(c.want) || e != api.OK {
			t.Error(i, told(got), e)
		}
	}
	for _, x := range edges() {
		got, e := ratio.Div(x, pair(0, 1))
		same(t, "by nought", got, e, api.Rat{}, api.ErrArg)
	}
}

func TestOfBadRats(t *testing.T) {
	good := append(edges(), bad()...)
	for _, x := range bad() {
		for _, y := range good {
			for _, c := range [][2]api.Rat{{x, y}, {y, x}} {
				for i, f := range []func(a, b api.Rat) (api.Rat, api.Errno){ratio.Add, ratio.Sub, ratio.Mul, ratio.Div} {
					if got, e := f(c[0], c[1]); got != (api.Rat{}) || e != api.ErrArg {
						t.Error(i, told(c[0]), told(c[1]), told(got), e)
					}
				}
				if n, e := ratio.Cmp(c[0], c[1]); n != 0 || e != api.ErrArg {
					t.Error(told(c[0]), told(c[1]), n, e)
				}
				got, e := ratio.Least(c[0], c[1])
				same(t, "Least", got, e, api.Rat{}, api.ErrArg)
			}
		}
		if n, e := ratio.Floor(x); n != (api.Int{}) || e != api.ErrArg {
			t.Error(told(x), great(n), e)
		}
		if s, e := ratio.Text(x); s != "" || e != api.ErrArg {
			t.Error(told(x), s, e)
		}
	}
}

func TestCmp(t *testing.T) {
	pairs(func(a, b api.Rat) {
		if n, e := ratio.Cmp(a, b); n != value(a).Cmp(value(b)) || e != api.OK {
			t.Error(told(a), told(b), n, e)
		}
	})
	top, next, less := most(), power(256, -2), power(256, -3)
	if n, e := ratio.Cmp(over(less, next), over(next, top)); n != -1 || e != api.OK {
		t.Error(n, e)
	}
}

// floor is the whole number there, or to the left.
func floor(x *big.Rat) *big.Int {
	q, _ := new(big.Int).DivMod(x.Num(), x.Denom(), new(big.Int)) // what is left is never below 0
	return q
}

func TestFloor(t *testing.T) {
	for _, x := range append(edges(), mixed(200)...) {
		if n, e := ratio.Floor(x); n != small(floor(value(x))) || e != api.OK {
			t.Error(told(x), great(n), e)
		}
	}
	for _, c := range [][3]int64{{-7, 3, -3}, {7, 3, 2}, {-6, 1, -6}, {6, 1, 6}, {0, 1, 0}, {-1, 2, -1}, {1, 2, 0}} {
		if n, e := ratio.Floor(pair(c[0], c[1])); n != limb.Of(c[2]) || e != api.OK {
			t.Error(c, great(n), e)
		}
	}
}

func TestLeast(t *testing.T) {
	l := append(edges(), mixed(100)...)
	least := slices.MinFunc(l, func(a, b api.Rat) int { return value(a).Cmp(value(b)) })
	for n := range l {
		turned := append(slices.Clone(l[n:]), l[:n]...)
		kept := slices.Clone(turned)
		got, e := ratio.Least(turned...)
		same(t, "Least", got, e, least, api.OK)
		if !slices.Equal(turned, kept) {
			t.Fatal("what was handed in has changed")
		}
	}
	for _, c := range []struct{ of, want string }{{"1", "1"}, {"1/2 1/3", "1/3"}, {"-1/2 -1/3 0", "-1/2"}, {"5 5 5", "5"}, {"3 2 1 -1 4", "-1"}} {
		var of []api.Rat
		for s := range strings.FieldsSeq(c.of) {
			of = append(of, read(s))
		}
		got, e := ratio.Least(of...)
		same(t, c.of, got, e, read(c.want), api.OK)
	}
	got, e := ratio.Least()
	same(t, "of none", got, e, api.Rat{}, api.ErrArg)
	got, e = ratio.Least([]api.Rat{}...)
	same(t, "of none", got, e, api.Rat{}, api.ErrArg)
	got, e = ratio.Least(api.Rat{})
	same(t, "of one that may not be", got, e, api.Rat{}, api.ErrArg)
	got, e = ratio.Least(pair(1, 1), pair(0, 1), pair(2, 4))
	same(t, "of one that may not be", got, e, api.Rat{}, api.ErrArg)
}

func TestText(t *testing.T) {
	for _, x := range append(edges(), mixed(200)...) {
		s, e := ratio.Text(x)
		if s != value(x).RatString() || e != api.OK {
			t.Error(told(x), s, e)
		}
	}
	for _, c := range []struct {
		x    api.Rat
		want string
	}{{pair(0, 1), "0"}, {pair(-7, 3), "-7/3"}, {pair(-7, 1), "-7"}, {pair(1, 120), "1/120"}} {
		if s, e := ratio.Text(c.x); s != c.want || e != api.OK {
			t.Error(c.want, s, e)
		}
	}
}

func TestParse(t *testing.T) {
	for _, x := range append(edges(), mixed(200)...) {
		got, e := ratio.Parse(value(x).RatString())
		same(t, told(x), got, e, x, api.OK)
	}
	for _, s := range []string{"0", "1", "-1", "-7/3", "1/2", "10/11", "-1/10", most().String() + "/2", "1/" + most().String()} {
		got, e := ratio.Parse(s)
		same(t, s, got, e, read(s), api.OK)
	}
}

func TestParseOfNoText(t *testing.T) {
	many, top := strings.Repeat("9", 100), most().String()
	for _, s := range []string{
		"", "/", "//", "-", "1/", "/2", "-/2", "1/-", "1/-2", "1/2/3", "1//2", "1/2/", "/1/2", "1 /2", "1/ 2", " 1/2", "1/2 ", "+1/2", "1/+2",
		"01/2", "1/02", "-0", "-0/2", "00", "1.5", "1e3", "0x1", "x", "1/x", "x/2", "1\\2", "1\u20442", "\u0661/2", "\xff", "1/\xff", "1/2\x00",
		"1/1", "0/1", "5/1", "-5/1", "1/0", "0/0", "-3/0", "1/-1", // what may not stand behind
		"4/6", "0/2", "0/" + top, "2/2", "-3/9", top + "/" + top, // not in lowest terms
		many + "/0", many + "/1", many + "/-2", many + "/02", many + "/", many + "/x", many + "x", "0" + many, "-0" + many, // in the wrong form on the other side of too great
		"x/" + many, "/" + many, "-0/" + many, "01/" + many, "1/-" + many, "1/0" + many, many + "/-" + many, many + "/" + many + "x", many + "/2/3", many + "/" + many + "/",
	} {
		got, e := ratio.Parse(s)
		same(t, s, got, e, api.Rat{}, api.ErrRat)
	}
}

func TestParseOfTooGreat(t *testing.T) {
	over := bound.String()
	for _, s := range []string{
		over, "-" + over, over + "/2", over + "/3", "-" + over + "/" + most().String(), "1/" + over, "0/" + over, "2/" + over, over + "/" + over, "-1/" + over,
		strings.Repeat("9", 1<<20), "1/" + strings.Repeat("9", 1<<20),
	} {
		got, e := ratio.Parse(s)
		same(t, "too great", got, e, api.Rat{}, api.ErrOver)
	}
}
