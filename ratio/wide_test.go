package ratio

import (
	"math"
	"math/big"
	"testing"

	"merestone/api"
)

// number is a magnitude's.
func number(w []uint64) *big.Int {
	b := new(big.Int)
	for i := len(w) - 1; i >= 0; i-- {
		b.Add(b.Lsh(b, 64), new(big.Int).SetUint64(w[i]))
	}
	return b
}

// signed is a wide's number.
func signed(w wide) *big.Int {
	b := number(w[:])
	if w.sign() < 0 {
		b.Sub(b, new(big.Int).Lsh(big.NewInt(1), 640))
	}
	return b
}

// at is an Int whose words are each one of four that stand at an end.
func at(n int) (a api.Int) {
	ends := [4]uint64{0, 1, 1 << 63, math.MaxUint64}
	for i := range a.Mag {
		a.Mag[i] = ends[n>>(2*i)&3]
	}
	return a
}

// The guess at a word of the quotient is worst where words are at their ends.
func TestPartedOfWordsAtTheirEnds(t *testing.T) {
	for n := range 256 {
		for m := 1; m < 256; m++ {
			w := product(at(n), at(255-m)).minus(product(at(m), at(255-n)))
			b, d := signed(w), at(m)
			often, left := w.parted(d)
			q, r := new(big.Int).QuoRem(b, number(d.Mag[:]), new(big.Int))
			if signed(often).Cmp(q) != 0 || number(left.Mag[:]).CmpAbs(r) != 0 || left.Neg {
				t.Fatal(b, number(d.Mag[:]), signed(often), number(left.Mag[:]))
			}
		}
	}
}

func TestProductOfWordsAtTheirEnds(t *testing.T) {
	for n := range 256 {
		for m := range 256 {
			a, b := at(n), at(m)
			b.Neg = m%3 == 1
			wanted := new(big.Int).Mul(number(a.Mag[:]), number(b.Mag[:]))
			if b.Neg {
				wanted.Neg(wanted)
			}
			w := product(a, b)
			if signed(w).Cmp(wanted) != 0 || w.sign() != wanted.Sign() {
				t.Fatal(wanted, signed(w))
			}
		}
	}
}
