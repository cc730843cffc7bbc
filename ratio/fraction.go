package ratio

import (
	"merestone/api"
	"merestone/limb"
	"merestone/quit"
)

// A fraction is a Rat under way: each step leaves it in lowest terms, or gives up.
type fraction struct {
	api.Rat
}

// after is what a has come to after a step with b.
func after(a api.Rat, step func(*fraction, api.Rat), b api.Rat) (api.Rat, api.Errno) {
	if e := checkAll(a, b); e != api.OK {
		return api.Rat{}, e
	}
	x := fraction{Rat: a}
	return x.done(func() { step(&x, b) })
}

// done is what the fraction is when the work is done, or for what the work gave up.
func (x *fraction) done(work func()) (api.Rat, api.Errno) {
	return quit.Caught(func() api.Rat {
		work()
		return x.Rat
	})
}

// parts is what n, which d divides, has in place of d.
func parts(n, d api.Int) api.Int {
	often, _, e := limb.Quo(n, d)
	return quit.Must(often, e)
}

// seen tells where a is as seen from b; both may be.
func seen(a, b api.Rat) int {
	return product(a.N, b.D).minus(product(b.N, a.D)).sign()
}

// plus adds b.
func (x *fraction) plus(b api.Rat) {
	b.N = quit.Must(limb.Neg(b.N))
	x.minus(b)
}

// minus takes b from it. The denominators multiplied, and what is left, are both divided by nothing but what
// divides both denominators already (Knuth, 4.5.1): so no common divisor of wide numbers is needed.
func (x *fraction) minus(b api.Rat) {
	shared := quit.Must(limb.Gcd(x.D, b.D))
	own, other := parts(x.D, shared), parts(b.D, shared)
	n := product(x.N, other).minus(product(b.N, own))
	_, left := n.parted(shared)
	both := quit.Must(limb.Gcd(left, shared))
	n, _ = n.parted(both)
	x.N = n.narrow()
	x.D = quit.Must(limb.Mul(own, parts(b.D, both)))
}

// times makes it b times as much. What divides a numerator and the other one's denominator goes first:
// then the products are in lowest terms, and too great only if the answer is.
func (x *fraction) times(b api.Rat) {
	across, back := quit.Must(limb.Gcd(x.N, b.D)), quit.Must(limb.Gcd(b.N, x.D))
	x.N = quit.Must(limb.Mul(parts(x.N, across), parts(b.N, back)))
	x.D = quit.Must(limb.Mul(parts(x.D, back), parts(b.D, across)))
}

// over divides it by b.
func (x *fraction) over(b api.Rat) {
	switch limb.Sign(b.N) {
	case 0:
		quit.For(api.ErrArg)
	case -1:
		b.N, b.D = quit.Must(limb.Neg(b.N)), quit.Must(limb.Neg(b.D))
	}
	x.times(api.Rat{N: b.D, D: b.N})
}
