package seg_test

import (
	"testing"

	"merestone/api"
	"merestone/point"
	"merestone/seg"
)

func TestTurnsGoRound(t *testing.T) {
	turn := func(a, b, c api.Node) int {
		n, e := seg.Turn(a, b, c)
		if e != api.OK {
			t.Error(a, b, c, e)
		}
		return n
	}
	for _, a := range nodes() {
		for _, b := range nodes() {
			for _, c := range nodes() {
				n := turn(a, b, c)
				if turn(b, c, a) != n || turn(c, a, b) != n {
					t.Error("round", a, b, c, n)
				}
				if turn(b, a, c) != -n || turn(a, c, b) != -n || turn(c, b, a) != -n {
					t.Error("changed", a, b, c, n)
				}
			}
		}
	}
}

func TestTheSideOfANodeIsTheTurn(t *testing.T) {
	for _, s := range segments() {
		for _, n := range nodes() {
			turn, _ := seg.Turn(s.A, s.B, n)
			if side, e := seg.Side(s, of(n).point()); side != turn || e != api.OK {
				t.Error(s, n, side, turn, e)
			}
		}
	}
}

func TestEndsAreOn(t *testing.T) {
	for _, s := range segments() {
		for n := range seg.Nodes(s) {
			if is, e := seg.On(s, of(n).point()); !is || e != api.OK {
				t.Error(s, n, e)
			}
		}
	}
}

func TestWhoIsOn(t *testing.T) {
	on := 0
	each(func(s api.Seg, p spot) {
		is, _ := seg.On(s, p.point())
		laid, _ := seg.Laid(s)
		if still, e := seg.On(laid, p.point()); still != is || e != api.OK {
			t.Error(s, p, is, e)
		}
		if !is {
			return
		}
		on++
		if side, e := seg.Side(s, p.point()); side != 0 || e != api.OK {
			t.Error(s, p, side, e)
		}
	})
	if on == 0 {
		t.Error("none is on")
	}
}

// moved is the segment so far to the right, and up.
func moved(s api.Seg, dx, dy int64) api.Seg {
	return line(s.A.X+dx, s.A.Y+dy, s.B.X+dx, s.B.Y+dy)
}

func TestMovedAndTurned(t *testing.T) {
	went := 0
	each(func(s api.Seg, p spot) {
		side, _ := seg.Side(s, p.point())
		on, _ := seg.On(s, p.point())
		same := func(s api.Seg, p api.Point, wanted int) {
			n, e := seg.Side(s, p)
			is, f := seg.On(s, p)
			if n != wanted || e != api.OK || is != on || f != api.OK {
				t.Error(s, p, n, e, is, f)
			}
		}
		turned := line(s.A.Y, s.A.X, s.B.Y, s.B.X)
		same(turned, spot{x: p.y, y: p.x}.point(), -side)
		same(api.Seg{A: s.B, B: s.A}, p.point(), -side)
		for _, d := range [][2]int64{{1, 0}, {-3, 5}, {most, -most}, {-2 * most, 2 * most}} {
			q, e := point.Move(p.point(), d[0], d[1])
			if far := moved(s, d[0], d[1]); e == api.OK && seg.Check(far) == api.OK {
				same(far, q, side)
				went++
			}
		}
	})
	if went == 0 {
		t.Error("nothing was moved")
	}
}

func TestParseOfText(t *testing.T) {
	for _, s := range segments() {
		text, _ := seg.Text(s)
		if got, e := seg.Parse(text); got != s || e != api.OK {
			t.Error(s, text, got, e)
		}
	}
}
