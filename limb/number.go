package limb

import "merestone/api"

// A number is an Int under way: over is what its magnitude has above the words of an Int.
type number struct {
	api.Int
	over uint64
}

// after is what the number has come to after a step for each of them, one after the other.
func (n *number) after(step func(api.Int), l ...api.Int) (api.Int, api.Errno) {
	if e := checkAll(l...); e != api.OK {
		return api.Int{}, e
	}
	e := caught(func() {
		for _, a := range l {
			step(a)
		}
	})
	if e != api.OK {
		return api.Int{}, e
	}
	return n.Int, api.OK
}

// caught does the work, and tells for what it gave up, if it did.
func caught(work func()) (e api.Errno) {
	defer func() {
		gone := recover()
		if gone == nil {
			return
		}
		told, ok := gone.(api.Errno)
		if !ok {
			panic(gone) // no answer of the document's, but a fault in here
		}
		e = told
	}()
	work()
	return api.OK
}

// settle gives up if the number is too great; nought has no sign.
func (n *number) settle() {
	if n.over != 0 {
		panic(api.ErrOver)
	}
	n.Neg = n.Neg && n.Mag != words{}
}

// plus adds a.
func (n *number) plus(a api.Int) {
	switch {
	case n.Neg == a.Neg:
		n.over = addTo(n.Mag[:], a.Mag[:])
	case order(n.Mag[:], a.Mag[:]) < 0:
		n.Int, a = a, n.Int // the sum has the sign of the greater one
		fallthrough
	default:
		takeFrom(n.Mag[:], a.Mag[:])
	}
	n.settle()
}

// times makes it a times as much.
func (n *number) times(a api.Int) {
	n.Neg = n.Neg != a.Neg
	n.Mag, n.over = product(n.Mag, a.Mag)
	n.settle()
}
