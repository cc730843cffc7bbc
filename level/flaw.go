package level

import (
	"merestone/api"
	"merestone/point"
	"merestone/quit"
	"merestone/ratio"
	"merestone/seg"
)

// A flaw is what may be wrong with a line that is asked at an x, and the error that tells so.
type flaw struct {
	is   func(line) bool
	told api.Errno
}

// The places of flaws, in the order in which they are told.
const (
	mayNotBe = iota
	spansNot
	isUpright
)

// flawsAt is what may be wrong at x, in order. An x that no point may have is given up at once: nothing is told ahead of that.
func flawsAt(x api.Rat) []flaw {
	quit.For(point.Right(api.Point{X: x, Y: ratio.Of(0)}))
	return []flaw{
		mayNotBe:  {is: func(l line) bool { return seg.Check(l.Seg) != api.OK }, told: api.ErrArg},
		spansNot:  {is: func(l line) bool { return !l.spans(x) }, told: api.ErrRange},
		isUpright: {is: func(l line) bool { return l.right == 0 }, told: api.ErrUpright},
	}
}

// find gives up for what is wrong first: what is ahead among the flaws counts, whichever line has it.
func find(flaws []flaw, l []line) {
	for _, f := range flaws {
		for _, one := range l {
			if f.is(one) {
				quit.For(f.told)
			}
		}
	}
}
