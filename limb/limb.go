// Package limb is layer 1: whole numbers below 2^256 in magnitude, exactly, or an error. See shared/doc/01-limb.md.
package limb

import (
	"iter"

	"merestone/api"
	"merestone/quit"
)

// Of is that number.
func Of(n int64) api.Int {
	size := uint64(n)
	if n < 0 {
		size = -size
	}
	return api.Int{Neg: n < 0, Mag: words{size}}
}

// Check tells ErrArg of an Int that may not be: a nought that is Neg.
func Check(a api.Int) api.Errno {
	if a.Neg && a.Mag == (words{}) {
		return api.ErrArg
	}
	return api.OK
}

// Neg is the number with the other sign.
func Neg(a api.Int) (api.Int, api.Errno) {
	if e := Check(a); e != api.OK {
		return api.Int{}, e
	}
	return signed(!a.Neg, a.Mag), api.OK
}

// Add is the sum of all, put together one after the other from 0 on.
func Add(l ...api.Int) (api.Int, api.Errno) {
	n := number{Int: Of(0)}
	return n.after(n.plus, l...)
}

// Sub is a less b.
func Sub(a, b api.Int) (api.Int, api.Errno) {
	b, e := Neg(b)
	if e != api.OK {
		return api.Int{}, e
	}
	return Add(a, b)
}

// Mul is the product of all, put together one after the other from 1 on.
func Mul(l ...api.Int) (api.Int, api.Errno) {
	n := number{Int: Of(1)}
	return n.after(n.times, l...)
}

// Quo is the quotient of a by b, rounded towards nought, and what is left, with the sign of a.
func Quo(a, b api.Int) (q, r api.Int, e api.Errno) {
	if e := checkAll(a, b); e != api.OK {
		return api.Int{}, api.Int{}, e
	}
	if Sign(b) == 0 {
		return api.Int{}, api.Int{}, api.ErrArg
	}
	often, left := words(a.Mag).parted(b.Mag)
	return signed(a.Neg != b.Neg, often), signed(a.Neg, left), api.OK
}

// Gcd is the greatest that divides both, never below 0.
func Gcd(a, b api.Int) (api.Int, api.Errno) {
	if e := checkAll(a, b); e != api.OK {
		return api.Int{}, e
	}
	return signed(false, words(a.Mag).shared(b.Mag)), api.OK
}

// Cmp tells -1, 0 or 1: a is less than b, the same, greater.
func Cmp(a, b api.Int) (int, api.Errno) {
	if e := checkAll(a, b); e != api.OK {
		return 0, e
	}
	switch {
	case a.Neg && b.Neg:
		return order(b.Mag[:], a.Mag[:]), api.OK
	case a.Neg:
		return -1, api.OK
	case b.Neg:
		return 1, api.OK
	}
	return order(a.Mag[:], b.Mag[:]), api.OK
}

// Sign tells -1, 0 or 1: below nought, nought (or an Int that may not be), above it.
func Sign(a api.Int) int {
	switch {
	case a.Mag == words{}:
		return 0
	case a.Neg:
		return -1
	}
	return 1
}

// Small is the number, if it is one of 64 bits.
func Small(a api.Int) (int64, bool) {
	n := int64(a.Mag[0])
	if a.Neg {
		n = -n
	}
	if Of(n) != a {
		return 0, false
	}
	return n, true
}

// Text is the number's decimal digits, a minus ahead of them if it is below nought.
func Text(a api.Int) (string, api.Errno) {
	if e := Check(a); e != api.OK {
		return "", e
	}
	if a.Neg {
		return "-" + words(a.Mag).digits(), api.OK
	}
	return words(a.Mag).digits(), api.OK
}

// Parse is the Int whose text it is.
func Parse(s string) (api.Int, api.Errno) {
	if !isText(s) {
		return api.Int{}, api.ErrDigits
	}
	return quit.Caught(func() api.Int {
		var n number
		n.read(s)
		return n.Int
	})
}

// Bits goes over the places of the bits of a's magnitude that are 1, rising.
func Bits(a api.Int) iter.Seq[int] {
	return words(a.Mag).places()
}

// checkAll tells ErrArg if one of them may not be.
func checkAll(l ...api.Int) api.Errno {
	for _, a := range l {
		if e := Check(a); e != api.OK {
			return e
		}
	}
	return api.OK
}

// signed is the Int of that sign and magnitude; nought has no sign.
func signed(neg bool, m words) api.Int {
	return api.Int{Neg: neg && m != words{}, Mag: m}
}
