package limb_test

import (
	"testing"

	"merestone/api"
	"merestone/limb"
)

// must is the answer, where there is one.
func must(t *testing.T, a api.Int, e api.Errno) api.Int {
	t.Helper()
	if e != api.OK {
		t.Fatal(e)
	}
	return a
}

// narrow are Ints of which products of three and their sums are no ErrOver, nought and both signs among them.
func narrow() []api.Int {
	l := []api.Int{limb.Of(0), limb.Of(1), limb.Of(-1), limb.Of(-6), limb.Of(15), power(64, -1), minus(power(64, 0)), power(80, 0), minus(power(80, -1))}
	for _, a := range mixed(200) {
		if a.Mag[1]>>16 == 0 && a.Mag[2] == 0 && a.Mag[3] == 0 {
			l = append(l, a)
		}
		if len(l) == 20 {
			break
		}
	}
	return l
}

func TestOrderOfSumsAndProducts(t *testing.T) {
	put := func(f func(...api.Int) (api.Int, api.Errno), l ...api.Int) api.Int {
		a, e := f(l...)
		return must(t, a, e)
	}
	l := narrow()
	for _, a := range l {
		for _, b := range l {
			for _, c := range l {
				if put(limb.Add, a, b, c) != put(limb.Add, c, b, a) || put(limb.Add, a, b, c) != put(limb.Add, b, c, a) {
					t.Error("sum:", great(a), great(b), great(c))
				}
				if put(limb.Mul, a, b, c) != put(limb.Mul, c, b, a) || put(limb.Mul, a, b, c) != put(limb.Mul, b, c, a) {
					t.Error("product:", great(a), great(b), great(c))
				}
				if put(limb.Mul, a, put(limb.Add, b, c)) != put(limb.Add, put(limb.Mul, a, b), put(limb.Mul, a, c)) {
					t.Error("product over sum:", great(a), great(b), great(c))
				}
			}
		}
	}
}

func TestOtherSigns(t *testing.T) {
	pairs(func(a, b api.Int) {
		na, nb := minus(a), minus(b)
		s, e := limb.Add(a, b)
		n, ne := limb.Add(na, nb)
		same(t, "sum", n, ne, minus(s), e)
		p, e := limb.Mul(a, b)
		n, ne = limb.Mul(na, b)
		same(t, "product", n, ne, minus(p), e)
		n, ne = limb.Mul(a, nb)
		same(t, "product", n, ne, minus(p), e)
		q, r, e := limb.Quo(a, b)
		nq, nr, ne := limb.Quo(na, b)
		same(t, "quotient", nq, ne, minus(q), e)
		same(t, "what is left", nr, ne, minus(r), e)
		g, e := limb.Gcd(a, b)
		n, ne = limb.Gcd(na, b)
		same(t, "common divisor", n, ne, g, e)
		n, ne = limb.Gcd(a, nb)
		same(t, "common divisor", n, ne, g, e)
	})
}

func TestQuotientAndWhatIsLeft(t *testing.T) {
	pairs(func(a, b api.Int) {
		q, r, e := limb.Quo(a, b)
		if limb.Sign(b) == 0 {
			return
		}
		must(t, q, e)
		whole, e := limb.Mul(q, b)
		must(t, whole, e)
		back, e := limb.Add(whole, r)
		same(t, "q times b, and r", back, e, a, api.OK)
		r.Neg, b.Neg = false, false
		if c, e := limb.Cmp(r, b); c != -1 || e != api.OK {
			t.Error("not less than b:", great(r), great(b))
		}
	})
}

func TestCommonDivisor(t *testing.T) {
	pairs(func(a, b api.Int) {
		g, e := limb.Gcd(a, b)
		must(t, g, e)
		if limb.Sign(g) == 0 {
			if limb.Sign(a) != 0 || limb.Sign(b) != 0 {
				t.Error("nought:", great(a), great(b))
			}
			return
		}
		x, r, e := limb.Quo(a, g)
		same(t, "of a", r, e, api.Int{}, api.OK)
		y, r, e := limb.Quo(b, g)
		same(t, "of b", r, e, api.Int{}, api.OK)
		none, e := limb.Gcd(x, y)
		same(t, "of what is left", none, e, limb.Of(1), api.OK)
	})
}
