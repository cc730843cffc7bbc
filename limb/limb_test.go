package limb_test

import (
	"math"
	"math/big"
	"slices"
	"strings"
	"testing"

	"merestone/api"
	"merestone/limb"
)

// minusNought is the one kind of Int that may not be.
var minusNought = api.Int{Neg: true}

// bound is 2^256: no magnitude reaches it.
var bound = new(big.Int).Lsh(big.NewInt(1), 256)

// power is 2^n and more, as an Int.
func power(n uint, more int64) api.Int {
	b := new(big.Int).Lsh(big.NewInt(1), n)
	return small(b.Add(b, big.NewInt(more)))
}

// small is an Int of a number that is small enough for one.
func small(b *big.Int) api.Int {
	a := api.Int{Neg: b.Sign() < 0}
	m := new(big.Int).Abs(b)
	for i := range a.Mag {
		a.Mag[i] = new(big.Int).And(new(big.Int).Rsh(m, uint(64*i)), new(big.Int).SetUint64(math.MaxUint64)).Uint64()
	}
	return a
}

// great is an Int's number.
func great(a api.Int) *big.Int {
	b := new(big.Int)
	for i := 3; i >= 0; i-- {
		b.Add(b.Lsh(b, 64), new(big.Int).SetUint64(a.Mag[i]))
	}
	if a.Neg {
		b.Neg(b)
	}
	return b
}

// minus is the Int with the other sign, made here.
func minus(a api.Int) api.Int {
	return small(new(big.Int).Neg(great(a)))
}

// want is what an exact answer is told as.
func want(b *big.Int) (api.Int, api.Errno) {
	if b.CmpAbs(bound) >= 0 {
		return api.Int{}, api.ErrOver
	}
	return small(b), api.OK
}

// edges are numbers at which a word ends, of both signs.
func edges() []api.Int {
	l := []api.Int{{}}
	for _, n := range []uint{0, 1, 31, 32, 63, 64, 65, 127, 128, 129, 191, 192, 193, 255} {
		for more := int64(-1); more <= 1; more++ {
			l = append(l, power(n, more), minus(power(n, more)))
		}
	}
	return append(l, power(256, -1), minus(power(256, -1)), power(256, -2), minus(power(256, -2)))
}

// mixed are numbers of all widths, the same at each run.
func mixed(n int) []api.Int {
	l := make([]api.Int, n)
	x := uint64(88172645463325252)
	next := func() uint64 {
		x ^= x << 13
		x ^= x >> 7
		x ^= x << 17
		return x
	}
	for i := range l {
		b := new(big.Int)
		for range 4 {
			b.Add(b.Lsh(b, 64), new(big.Int).SetUint64(next()))
		}
		b.Rsh(b, uint(next()%256))
		if next()%2 == 0 {
			b.Neg(b)
		}
		l[i] = small(b)
	}
	return l
}

// pairs hands over each pair of edges, and of mixed numbers.
func pairs(do func(a, b api.Int)) {
	for _, l := range [][]api.Int{edges(), mixed(60)} {
		for _, a := range l {
			for _, b := range l {
				do(a, b)
			}
		}
	}
}

// same fails if an answer is not the one that is wanted.
func same(t *testing.T, what string, got api.Int, e api.Errno, wanted api.Int, wantedErrno api.Errno) {
	t.Helper()
	if got != wanted || e != wantedErrno {
		t.Errorf("%s: %v %d, not %v %d", what, great(got), e, great(wanted), wantedErrno)
	}
}

func TestOf(t *testing.T) {
	for _, n := range []int64{0, 1, -1, 120, -120, math.MaxInt64, math.MinInt64, math.MinInt64 + 1} {
		same(t, "Of", limb.Of(n), api.OK, small(big.NewInt(n)), api.OK)
	}
	if limb.Of(0).Neg {
		t.Error("nought is Neg")
	}
}

func TestCheck(t *testing.T) {
	for _, a := range edges() {
		if e := limb.Check(a); e != api.OK {
			t.Error(great(a), e)
		}
	}
	if e := limb.Check(minusNought); e != api.ErrArg {
		t.Error(e)
	}
}

func TestNeg(t *testing.T) {
	for _, a := range append(edges(), mixed(60)...) {
		got, e := limb.Neg(a)
		same(t, "Neg", got, e, minus(a), api.OK)
	}
	got, e := limb.Neg(minusNought)
	same(t, "Neg", got, e, api.Int{}, api.ErrArg)
}

func TestAddSubMul(t *testing.T) {
	pairs(func(a, b api.Int) {
		x, y := great(a), great(b)
		got, e := limb.Add(a, b)
		wanted, errno := want(new(big.Int).Add(x, y))
		same(t, x.String()+"+"+y.String(), got, e, wanted, errno)
		got, e = limb.Sub(a, b)
		wanted, errno = want(new(big.Int).Sub(x, y))
		same(t, x.String()+"-"+y.String(), got, e, wanted, errno)
		got, e = limb.Mul(a, b)
		wanted, errno = want(new(big.Int).Mul(x, y))
		same(t, x.String()+"*"+y.String(), got, e, wanted, errno)
	})
}

func TestAddAtTheBound(t *testing.T) {
	most, least, one := power(256, -1), minus(power(256, -1)), limb.Of(1)
	for _, c := range []struct {
		l      []api.Int
		wanted api.Int
		errno  api.Errno
	}{
		{nil, api.Int{}, api.OK},
		{[]api.Int{limb.Of(-7)}, limb.Of(-7), api.OK},
		{[]api.Int{limb.Of(1), limb.Of(2), limb.Of(-10), limb.Of(4)}, limb.Of(-3), api.OK},
		{[]api.Int{most}, most, api.OK},
		{[]api.Int{power(256, -2), one}, most, api.OK},
		{[]api.Int{most, least}, api.Int{}, api.OK},
		{[]api.Int{most, one}, api.Int{}, api.ErrOver},
		{[]api.Int{least, limb.Of(-1)}, api.Int{}, api.ErrOver},
		{[]api.Int{power(255, 0), power(255, 0)}, api.Int{}, api.ErrOver},
		{[]api.Int{most, one, limb.Of(-1)}, api.Int{}, api.ErrOver}, // too great on the way
		{[]api.Int{most, limb.Of(-1), one}, most, api.OK},
		{[]api.Int{minusNought}, api.Int{}, api.ErrArg},
		{[]api.Int{most, one, minusNought}, api.Int{}, api.ErrArg}, // ahead of ErrOver
	} {
		got, e := limb.Add(c.l...)
		same(t, "Add", got, e, c.wanted, c.errno)
	}
}

func TestSubOfWrongInts(t *testing.T) {
	for _, c := range [][2]api.Int{{minusNought, limb.Of(1)}, {limb.Of(1), minusNought}} {
		got, e := limb.Sub(c[0], c[1])
		same(t, "Sub", got, e, api.Int{}, api.ErrArg)
	}
}

func TestMulAtTheBound(t *testing.T) {
	great := power(200, 0)
	for _, c := range []struct {
		l      []api.Int
		wanted api.Int
		errno  api.Errno
	}{
		{nil, limb.Of(1), api.OK},
		{[]api.Int{limb.Of(-7)}, limb.Of(-7), api.OK},
		{[]api.Int{limb.Of(-2), limb.Of(3), limb.Of(-5)}, limb.Of(30), api.OK},
		{[]api.Int{power(128, -1), power(128, 1)}, power(256, -1), api.OK},
		{[]api.Int{power(128, 0), power(128, 0)}, api.Int{}, api.ErrOver},
		{[]api.Int{power(255, 0), limb.Of(-2)}, api.Int{}, api.ErrOver},
		{[]api.Int{limb.Of(-3), limb.Of(0)}, api.Int{}, api.OK}, // nought is not Neg
		{[]api.Int{limb.Of(0), great, great}, api.Int{}, api.OK},
		{[]api.Int{great, great, limb.Of(0)}, api.Int{}, api.ErrOver}, // too great on the way
		{[]api.Int{minusNought}, api.Int{}, api.ErrArg},
		{[]api.Int{great, great, minusNought}, api.Int{}, api.ErrArg}, // ahead of ErrOver
	} {
		got, e := limb.Mul(c.l...)
		same(t, "Mul", got, e, c.wanted, c.errno)
	}
}

func TestWhatIsHandedInStays(t *testing.T) {
	l := []api.Int{limb.Of(-3), power(90, 1), limb.Of(8)}
	kept := slices.Clone(l)
	limb.Add(l...)
	limb.Mul(l...)
	if !slices.Equal(l, kept) {
		t.Error(l)
	}
}

// divided fails if Quo or Gcd of the two is not what it should be.
func divided(t *testing.T, a, b api.Int) {
	t.Helper()
	x, y := great(a), great(b)
	q, r, e := limb.Quo(a, b)
	if y.Sign() == 0 {
		if q != (api.Int{}) || r != (api.Int{}) || e != api.ErrArg {
			t.Error("by nought:", x, great(q), great(r), e)
		}
	} else if wq, wr := new(big.Int).QuoRem(x, y, new(big.Int)); q != small(wq) || r != small(wr) || e != api.OK {
		t.Error("Quo:", x, y, great(q), great(r), e)
	}
	g, e := limb.Gcd(a, b)
	same(t, "Gcd "+x.String()+" "+y.String(), g, e, small(new(big.Int).GCD(nil, nil, new(big.Int).Abs(x), new(big.Int).Abs(y))), api.OK)
}

func TestQuoGcd(t *testing.T) {
	pairs(func(a, b api.Int) { divided(t, a, b) })
}

// The guess at a word of the quotient is worst where words are at their ends.
func TestQuoGcdOfWordsAtTheirEnds(t *testing.T) {
	ends := [4]uint64{0, 1, 1 << 63, math.MaxUint64}
	at := func(n int) (a api.Int) {
		for i := range a.Mag {
			a.Mag[i] = ends[n>>(2*i)&3]
		}
		return a
	}
	for n := range 256 {
		for m := range 256 {
			divided(t, at(n), at(m))
		}
	}
}

func TestQuoRows(t *testing.T) {
	for _, c := range [][4]int64{{-7, 2, -3, -1}, {7, -2, -3, 1}, {-7, -2, 3, -1}, {7, 2, 3, 1}, {-1, 2, 0, -1}, {-6, 3, -2, 0}, {0, -5, 0, 0}} {
		q, r, e := limb.Quo(limb.Of(c[0]), limb.Of(c[1]))
		if q != limb.Of(c[2]) || r != limb.Of(c[3]) || e != api.OK {
			t.Error(c, great(q), great(r), e)
		}
	}
	for _, c := range [][2]api.Int{{minusNought, limb.Of(1)}, {limb.Of(1), minusNought}, {limb.Of(1), limb.Of(0)}, {limb.Of(0), limb.Of(0)}} {
		q, r, e := limb.Quo(c[0], c[1])
		if q != (api.Int{}) || r != (api.Int{}) || e != api.ErrArg {
			t.Error(c, q, r, e)
		}
	}
}

func TestGcdRows(t *testing.T) {
	for _, c := range [][3]int64{{-12, 18, 6}, {0, 0, 0}, {0, -5, 5}, {-5, 0, 5}, {-4, -4, 4}, {7, 9, 1}, {math.MinInt64, 48, 16}} {
		g, e := limb.Gcd(limb.Of(c[0]), limb.Of(c[1]))
		same(t, "Gcd", g, e, limb.Of(c[2]), api.OK)
	}
	for _, c := range [][2]api.Int{{minusNought, limb.Of(1)}, {limb.Of(1), minusNought}} {
		g, e := limb.Gcd(c[0], c[1])
		same(t, "Gcd", g, e, api.Int{}, api.ErrArg)
	}
}

func TestCmpSign(t *testing.T) {
	pairs(func(a, b api.Int) {
		if c, e := limb.Cmp(a, b); c != great(a).Cmp(great(b)) || e != api.OK {
			t.Error("Cmp:", great(a), great(b), c, e)
		}
		if s := limb.Sign(a); s != great(a).Sign() {
			t.Error("Sign:", great(a), s)
		}
	})
	for _, c := range [][2]api.Int{{minusNought, limb.Of(1)}, {limb.Of(1), minusNought}} {
		if n, e := limb.Cmp(c[0], c[1]); n != 0 || e != api.ErrArg {
			t.Error(n, e)
		}
	}
	if s := limb.Sign(minusNought); s != 0 {
		t.Error(s)
	}
}

func TestSmall(t *testing.T) {
	for _, a := range append(edges(), mixed(60)...) {
		n, ok := limb.Small(a)
		if fits := great(a).IsInt64(); ok != fits || fits && n != great(a).Int64() || !fits && n != 0 {
			t.Error(great(a), n, ok)
		}
	}
	for _, a := range []api.Int{minusNought, power(63, 0), minus(power(63, 1)), power(64, 0), {Mag: [4]uint64{1, 0, 0, 1}}} {
		if n, ok := limb.Small(a); n != 0 || ok {
			t.Error(great(a), n, ok)
		}
	}
	if n, ok := limb.Small(minus(power(63, 0))); n != math.MinInt64 || !ok {
		t.Error(n, ok)
	}
}

func TestTextParse(t *testing.T) {
	l := append(edges(), mixed(200)...)
	for ten := big.NewInt(10); ten.Cmp(bound) < 0; ten = new(big.Int).Mul(ten, big.NewInt(10)) {
		l = append(l, small(ten), small(new(big.Int).Neg(ten)), small(new(big.Int).Sub(ten, big.NewInt(1))))
	}
	for _, a := range l {
		s, e := limb.Text(a)
		if s != great(a).String() || e != api.OK {
			t.Error(great(a), s, e)
		}
		back, e := limb.Parse(s)
		same(t, s, back, e, a, api.OK)
	}
	if s, e := limb.Text(minusNought); s != "" || e != api.ErrArg {
		t.Error(s, e)
	}
}

func TestParseOfTooGreat(t *testing.T) {
	over := new(big.Int).Add(bound, big.NewInt(9)).String()
	for _, s := range []string{bound.String(), "-" + bound.String(), over, "1" + strings.Repeat("0", 78), strings.Repeat("9", 1<<20)} {
		got, e := limb.Parse(s)
		same(t, "Parse", got, e, api.Int{}, api.ErrOver)
	}
}

func TestParseOfNoText(t *testing.T) {
	for _, s := range []string{
		"", "-", "--1", "-0", "00", "007", "-07", "+1", " 1", "1 ", "1x", "x", "0x1", "1.0", "1e3", "1_000", "1/2", "-", "1-",
		"/", ":", "1/", "1:", "\xff", "1\x00", "\u0661", "\uff11", "\u2212" + "1",
		strings.Repeat("9", 100) + "x", "0" + strings.Repeat("9", 100), "-0" + strings.Repeat("9", 100), // no digits, ahead of too many
	} {
		got, e := limb.Parse(s)
		same(t, s, got, e, api.Int{}, api.ErrDigits)
	}
}

func TestBits(t *testing.T) {
	for _, a := range append(edges(), mixed(60)...) {
		var wanted []int
		for i := range 256 {
			if a.Mag[i/64]>>(i%64)&1 == 1 {
				wanted = append(wanted, i)
			}
		}
		if got := slices.Collect(limb.Bits(a)); !slices.Equal(got, wanted) {
			t.Error(great(a), got)
		}
	}
	if got := slices.Collect(limb.Bits(minusNought)); len(got) != 0 {
		t.Error(got)
	}
}

func TestBitsAreLeftAndGoneOverAgain(t *testing.T) {
	wanted := []int{0, 1, 70, 255}
	all := limb.Bits(api.Int{Neg: true, Mag: [4]uint64{3, 64, 0, 1 << 63}})
	for n := range wanted {
		var got []int
		for at := range all {
			got = append(got, at)
			if len(got) == n+1 {
				break
			}
		}
		if !slices.Equal(got, wanted[:n+1]) {
			t.Error(got)
		}
	}
	for range all { // one inside the other
		if got := slices.Collect(all); !slices.Equal(got, wanted) {
			t.Error(got)
		}
	}
}
