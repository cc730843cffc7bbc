package ratio

import (
	"merestone/api"
	"merestone/limb"
)

// A fraction is a Rat under way: each step leaves it in lowest terms, or gives up.
type fraction struct {
	api.Rat
}

// after is what a has come to after a step with b.
func after(a api.Rat, step func(*fraction, api.Rat), b api.Rat) (api.Rat, api.Errno) {
	if e := checkAll(a, b); e != api.OK {
		return api.Rat{}, e
	}
	x := fraction{Rat: a}
	return x.done(func() { step(&x, b) })
}

// done is what the fraction is when the work is done, or for what the work gave up.
func (x *fraction) done(work func()) (r api.Rat, e api.Errno) {
	defer func() {
		gone := recover()
		if gone == nil {
			return
		}
		told, ok := gone.(api.Errno)
		if !ok {
			panic(gone) // no answer of the document's, but a fault in here
		}
		r, e = api.Rat{}, told
	}()
	work()
	return x.Rat, api.OK
}

// must is the answer; where there is none, the work is given up.
func must(n api.Int, e api.Errno) api.Int {
	if e != api.OK {
		panic(e)
	}
	return n
}

// parts is what n, which d divides, has in place of d.
func parts(n, d api.Int) api.Int {
	often, _, e := limb.Quo(n, d)
	return must(often, e)
}

// seen tells where a is as seen from b; both may be.
func seen(a, b api.Rat) int {
	return product(a.N, b.D).minus(product(b.N, a.D)).sign()
}

// plus adds b.
func (x *fraction) plus(b api.Rat) {
	b.N = must(limb.Neg(b.N))
	x.minus(b)
}

// minus takes b from it. The denominators multiplied, and what is left, are both divided by nothing but what
// divides both denominators already (Knuth, 4.5.1): so no common divisor of wide numbers is needed.
func (x *fraction) minus(b api.Rat) {
	shared := must(limb.Gcd(x.D, b.D))
	own, other := parts(x.D, shared), parts(b.D, shared)
	n := product(x.N, other).minus(product(b.N, own))
	_, left := n.parted(shared)
	both := must(limb.Gcd(left, shared))
	n, _ = n.parted(both)
	x.N = n.narrow()
	x.D = must(limb.Mul(own, parts(b.D, both)))
}

// times makes it b times as much. What divides a numerator and the other one's denominator goes first:
// then the products are in lowest terms, and too great only if the answer is.
func (x *fraction) times(b api.Rat) {
	across, back := must(limb.Gcd(x.N, b.D)), must(limb.Gcd(b.N, x.D))
	x.N = must(limb.Mul(parts(x.N, across), parts(b.N, back)))
	x.D = must(limb.Mul(parts(x.D, back), parts(b.D, across)))
}

// over divides it by b.
func (x *fraction) over(b api.Rat) {
	switch limb.Sign(b.N) {
	case 0:
		panic(api.ErrArg)
	case -1:
		b.N, b.D = must(limb.Neg(b.N)), must(limb.Neg(b.D))
	}
	x.times(api.Rat{N: b.D, D: b.N})
}
