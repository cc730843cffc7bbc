package ratio_test

import (
	"math/big"
	"testing"

	"merestone/api"
	"merestone/limb"
	"merestone/ratio"
)

// minus is the Rat of the other sign, made here.
func minus(x api.Rat) api.Rat {
	return rat(new(big.Rat).Neg(value(x)))
}

func TestSubUndoesAddAndDivMul(t *testing.T) {
	pairs(func(a, b api.Rat) {
		if s, e := ratio.Add(a, b); e == api.OK {
			back, e := ratio.Sub(s, b)
			same(t, "there and back", back, e, a, api.OK)
		}
		if p, e := ratio.Mul(a, b); e == api.OK && limb.Sign(b.N) != 0 {
			back, e := ratio.Div(p, b)
			same(t, "times and over", back, e, a, api.OK)
		}
	})
}

func TestAInThePlaceOfB(t *testing.T) {
	pairs(func(a, b api.Rat) {
		one, e := ratio.Add(a, b)
		other, f := ratio.Add(b, a)
		same(t, "sum", one, e, other, f)
		one, e = ratio.Mul(a, b)
		other, f = ratio.Mul(b, a)
		same(t, "product", one, e, other, f)
	})
}

func TestOneIsToTheLeft(t *testing.T) {
	pairs(func(a, b api.Rat) {
		n, _ := ratio.Cmp(a, b)
		m, _ := ratio.Cmp(b, a)
		if n != -m || (n == 0) != (a == b) {
			t.Error(told(a), told(b), n, m)
		}
		least, _ := ratio.Least(a, b)
		if wanted := map[int]api.Rat{-1: a, 0: a, 1: b}[n]; least != wanted {
			t.Error(told(a), told(b), told(least))
		}
	})
}

func TestOfTheOtherSign(t *testing.T) {
	pairs(func(a, b api.Rat) {
		s, e := ratio.Add(a, b)
		wanted := api.Rat{}
		if e == api.OK {
			wanted = minus(s)
		}
		n, f := ratio.Add(minus(a), minus(b))
		same(t, "sum", n, f, wanted, e)
		c, _ := ratio.Cmp(a, b)
		if d, _ := ratio.Cmp(minus(a), minus(b)); d != -c {
			t.Error(told(a), told(b), c, d)
		}
	})
}

func TestFloorsOfBothSigns(t *testing.T) {
	for _, x := range append(edges(), mixed(200)...) {
		up, e := ratio.Floor(x)
		down, f := ratio.Floor(minus(x))
		sum, g := limb.Add(up, down)
		wanted := limb.Of(-1)
		if x.D == limb.Of(1) {
			wanted = limb.Of(0)
		}
		if sum != wanted || e != api.OK || f != api.OK || g != api.OK {
			t.Error(told(x), great(up), great(down), e, f, g)
		}
	}
}

func TestParseOfText(t *testing.T) {
	for _, x := range append(edges(), mixed(200)...) {
		s, e := ratio.Text(x)
		back, f := ratio.Parse(s)
		if e != api.OK {
			t.Error(told(x), e)
		}
		same(t, s, back, f, x, api.OK)
	}
}
