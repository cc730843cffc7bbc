package limb

import (
	"merestone/api"
	"merestone/quit"
)

// A number is an Int under way: over is what its magnitude has above the words of an Int.
type number struct {
	api.Int
	over uint64
}

// after is what the number has come to after a step for each of them, one after the other.
func (n *number) after(step func(api.Int), l ...api.Int) (api.Int, api.Errno) {
	if e := checkAll(l...); e != api.OK {
		return api.Int{}, e
	}
	return quit.Caught(func() api.Int {
		for _, a := range l {
			step(a)
		}
		return n.Int
	})
}

// settle gives up if the number is too great; nought has no sign.
func (n *number) settle() {
	if n.over != 0 {
		quit.For(api.ErrOver)
	}
	n.Neg = n.Neg && n.Mag != words{}
}

// plus adds a.
func (n *number) plus(a api.Int) {
	switch {
	case n.Neg == a.Neg:
		n.over = addTo(n.Mag[:], a.Mag[:])
	case order(n.Mag[:], a.Mag[:]) < 0:
		n.Int, a = a, n.Int // the sum has the sign of the greater one
		fallthrough
	default:
		takeFrom(n.Mag[:], a.Mag[:])
	}
	n.settle()
}

// times makes it a times as much.
func (n *number) times(a api.Int) {
	n.Neg = n.Neg != a.Neg
	n.Mag, n.over = product(n.Mag, a.Mag)
	n.settle()
}
