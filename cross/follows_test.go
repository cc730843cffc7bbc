package cross_test

import (
	"slices"
	"testing"

	"merestone/api"
	"merestone/cross"
	"merestone/point"
	"merestone/seg"
)

// must is the answer, where there is one.
func must[T any](t *testing.T, answer T, e api.Errno) T {
	t.Helper()
	if e != api.OK {
		t.Fatal(e)
	}
	return answer
}

// meet is in what both meet, and if they cross.
func meet(t *testing.T, s, o api.Seg) (api.Meet, bool) {
	t.Helper()
	m, e := cross.Meet(s, o)
	is, f := cross.Crosses(s, o)
	must(t, m, e)
	return m, must(t, is, f)
}

func TestItDoesNotMatterWhoIsFirst(t *testing.T) {
	pairs(func(s, o api.Seg) {
		m, crosses := meet(t, s, o)
		for _, l := range [][2]api.Seg{{o, s}, {turned(s), o}, {s, turned(o)}, {turned(o), turned(s)}} {
			if again, is := meet(t, l[0], l[1]); again != m || is != crosses {
				t.Fatal(l, again, is)
			}
		}
	})
}

// moved is what is told of a Meet when all is so far to the right, and up.
func moved(t *testing.T, m api.Meet, dx, dy int64) api.Meet {
	t.Helper()
	if m.Kind == api.MeetNone {
		return m
	}
	p, e := point.Move(m.P, dx, dy)
	q, f := point.Move(m.Q, dx, dy)
	return api.Meet{Kind: m.Kind, P: must(t, p, e), Q: must(t, q, f)}
}

func TestItIsMovedWithBoth(t *testing.T) {
	went := 0
	far := func(s api.Seg, dx, dy int64) api.Seg {
		return piece(s.A.X+dx, s.A.Y+dy, s.B.X+dx, s.B.Y+dy)
	}
	pairs(func(s, o api.Seg) {
		m, crosses := meet(t, s, o)
		for _, d := range [][2]int64{{1, 0}, {-7, 5}, {most - 3, 3 - most}} {
			x, y := far(s, d[0], d[1]), far(o, d[0], d[1])
			if seg.Check(x) != api.OK || seg.Check(y) != api.OK {
				continue
			}
			went++
			if got, is := meet(t, x, y); got != moved(t, m, d[0], d[1]) || is != crosses {
				t.Fatal(s, o, d, got, is)
			}
		}
	})
	if went == 0 {
		t.Error("nothing was moved")
	}
}

func TestXForY(t *testing.T) {
	swapped := func(s api.Seg) api.Seg { return piece(s.A.Y, s.A.X, s.B.Y, s.B.X) }
	pairs(func(s, o api.Seg) {
		m, crosses := meet(t, s, o)
		wanted := api.Meet{Kind: m.Kind}
		if m.Kind != api.MeetNone {
			wanted.P, wanted.Q = api.Point{X: m.P.Y, Y: m.P.X}, api.Point{X: m.Q.Y, Y: m.Q.X}
			if c, e := point.Cmp(wanted.P, wanted.Q); must(t, c, e) > 0 {
				wanted.P, wanted.Q = wanted.Q, wanted.P
			}
		}
		if got, is := meet(t, swapped(s), swapped(o)); got != wanted || is != crosses {
			t.Fatal(s, o, got, is)
		}
	})
}

// on tells if a point lies on both.
func on(t *testing.T, s, o api.Seg, p api.Point) bool {
	t.Helper()
	is, e := seg.On(s, p)
	if must(t, is, e) {
		is, e = seg.On(o, p)
	}
	return must(t, is, e)
}

// between tells if a point is P, Q, or between them.
func between(t *testing.T, m api.Meet, p api.Point) bool {
	t.Helper()
	c, e := point.Cmp(m.P, p)
	d, f := point.Cmp(p, m.Q)
	return must(t, c, e) <= 0 && must(t, d, f) <= 0
}

func TestWhereTheyMeetLiesOnBoth(t *testing.T) {
	pairs(func(s, o api.Seg) {
		m, _ := meet(t, s, o)
		if m.Kind == api.MeetNone {
			return
		}
		mid, e := point.Mid(m.P, m.Q)
		for _, p := range []api.Point{m.P, must(t, mid, e), m.Q} {
			if !on(t, s, o, p) {
				t.Fatal(s, o, p)
			}
		}
	})
}

func TestWhatLiesOnBothIsWhereTheyMeet(t *testing.T) {
	lie := 0
	pairs(func(s, o api.Seg) {
		if s.A.X > s.B.X || o.A.X > o.B.X { // the same as the ones turned
			return
		}
		m, _ := meet(t, s, o)
		var l []api.Point
		for n := range seg.Nodes(s, o) {
			p, e := point.Of(n)
			l = append(l, must(t, p, e))
		}
		for i := range 3 {
			mid, e := point.Mid(l[i], l[i+1])
			l = append(l, must(t, mid, e))
		}
		for _, p := range l {
			if !on(t, s, o, p) {
				continue
			}
			lie++
			if m.Kind == api.MeetNone || !between(t, m, p) {
				t.Fatal(s, o, p, m)
			}
		}
	})
	if lie == 0 {
		t.Error("none lies on both")
	}
}

func TestPiecesPutTogether(t *testing.T) {
	lists(8, func(s api.Seg, l []api.Seg) {
		laid, e := seg.Laid(s)
		must(t, laid, e)
		last, e := point.Of(laid.A)
		must(t, last, e)
		for p, q := range cross.Pieces(s, l...) {
			c, e := point.Cmp(p, q)
			if p != last || must(t, c, e) != -1 || !on(t, s, s, q) {
				t.Fatal(s, l, p, q)
			}
			last = q
		}
		end, e := point.Of(laid.B)
		if last != must(t, end, e) {
			t.Fatal(s, l, last)
		}
	})
}

func TestPointsHangOnNoOrder(t *testing.T) {
	lists(8, func(s api.Seg, l []api.Seg) {
		wanted, e := cross.Points(s, l...)
		must(t, wanted, e)
		slices.Reverse(l)
		for i := range l {
			l[i] = turned(l[i])
		}
		if got, e := cross.Points(turned(s), l...); !slices.Equal(got, wanted) || e != api.OK {
			t.Fatal(s, l, got, e)
		}
	})
}
