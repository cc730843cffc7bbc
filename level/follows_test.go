package level_test

import (
	"math/big"
	"slices"
	"testing"

	"merestone/api"
	"merestone/cross"
	"merestone/level"
	"merestone/point"
	"merestone/ratio"
	"merestone/seg"
)

func TestAPointOfTheHeightIsOnTheSegment(t *testing.T) {
	went := 0
	each(func(s api.Seg, x *big.Rat) {
		y, e := level.At(s, fraction(x))
		p := api.Point{X: fraction(x), Y: y}
		if e != api.OK || point.Right(p) != api.OK {
			return
		}
		went++
		is, e := seg.On(s, p)
		n, f := level.Above(s, p)
		if !must(t, is, e) || must(t, n, f) != 0 {
			t.Fatal(s, x, y)
		}
	})
	if went == 0 {
		t.Error("none went")
	}
}

func TestWhatIsAboveIsToTheLeftOfTheSegmentLaid(t *testing.T) {
	each(func(s api.Seg, x *big.Rat) {
		for _, y := range []string{"0", "1", "1/2", "5/3", "67108864", "-67108864", "-79228162514264337593543950335"} {
			p := api.Point{X: fraction(x), Y: fraction(number(y))}
			n, e := level.Above(s, p)
			if e != api.OK || upright(s) {
				continue
			}
			laid, e := seg.Laid(s)
			side, f := seg.Side(must(t, laid, e), p)
			if must(t, side, f) != n {
				t.Fatal(s, x, y, n)
			}
		}
	})
}

// rising are these segments, each one way alone.
func rising() []api.Seg {
	return slices.DeleteFunc(segments(), func(s api.Seg) bool { return s.A.X > s.B.X || upright(s) && s.A.Y > s.B.Y })
}

func TestLowerTurnsWithTheTwo(t *testing.T) {
	all := rising()
	for _, x := range columns()[:6] {
		for _, s := range all {
			for _, o := range all {
				n, e := level.Lower(s, o, fraction(x))
				if back, f := level.Lower(turned(o), turned(s), fraction(x)); back != -n || f != e {
					t.Fatal(s, o, x, n, back, e, f)
				}
			}
			if e := flawOf(s, x); e != api.OK {
				continue
			}
			if n, e := level.Lower(s, turned(s), fraction(x)); n != 0 || e != api.OK {
				t.Fatal(s, x, n, e)
			}
		}
	}
}

func TestWhoIsLowerStaysSoWhereTheyMeetInNothing(t *testing.T) {
	went := 0
	all := rising()
	for i, s := range all {
		for _, o := range all[:i] {
			m, e := cross.Meet(s, o)
			if must(t, m, e).Kind != api.MeetNone {
				continue
			}
			found := 0
			for _, x := range columns() {
				n, e := level.Lower(s, o, fraction(x))
				switch {
				case e != api.OK: // not both span it
				case n == 0 || n == -found:
					t.Fatal(s, o, x, n)
				case found != 0:
					went++
				default:
					found = n
				}
			}
		}
	}
	if went == 0 {
		t.Error("none span several")
	}
}

// changed is what a change of the plane makes of things: of a segment, of a number of the X, of one of the Y.
type changed struct {
	seg  func(api.Seg) api.Seg
	x, y func(api.Rat) api.Rat
	turn int // -1: what was above is below
}

// plain is a change by so many times, and so far.
func plain(t *testing.T, timesX, byX, timesY, byY int64) changed {
	number := func(times, by int64) func(api.Rat) api.Rat {
		return func(x api.Rat) api.Rat {
			x, e := ratio.Mul(must(t, x, api.OK), ratio.Of(times))
			x, f := ratio.Add(must(t, x, e), ratio.Of(by))
			return must(t, x, f)
		}
	}
	node := func(n api.Node) api.Node { return api.Node{X: n.X*timesX + byX, Y: n.Y*timesY + byY} }
	return changed{
		seg: func(s api.Seg) api.Seg { return api.Seg{A: node(s.A), B: node(s.B)} },
		x:   number(timesX, byX), y: number(timesY, byY), turn: int(timesY),
	}
}

func TestChangesOfThePlane(t *testing.T) {
	went := 0
	for _, c := range []changed{plain(t, 1, 7, 1, -5), plain(t, 1, 3-most, 1, most-3), plain(t, 1, 0, -1, 0), plain(t, -1, 0, -1, 0)} {
		each(func(s api.Seg, x *big.Rat) {
			own, other := s, c.seg(s)
			column := c.x(fraction(x))
			if seg.Check(other) != api.OK || point.Right(api.Point{X: column, Y: column}) != api.OK {
				return
			}
			went++
			y, e := level.At(own, fraction(x))
			if e == api.OK {
				y = c.y(y)
			}
			if got, f := level.At(other, column); got != y || f != e {
				t.Fatal(own, other, x, got, e, f)
			}
			for _, high := range []string{"0", "1", "1/2", "-3", "67108864"} {
				h := fraction(number(high))
				n, e := level.Above(own, api.Point{X: fraction(x), Y: h})
				if got, f := level.Above(other, api.Point{X: column, Y: c.y(h)}); got != n*c.turn || f != e {
					t.Fatal(own, other, x, high, n, got, e, f)
				}
			}
		})
	}
	if went == 0 {
		t.Error("nothing was changed")
	}
}
