package locate_test

import (
	"math/big"
	"slices"
	"testing"

	"merestone/angle"
	"merestone/api"
	"merestone/dcel"
	"merestone/locate"
	"merestone/point"
	"merestone/ratio"
	"merestone/seg"
)

// put is a list that rises with one more in it, unless that is there.
func put[T int | int64](l []T, x T) []T {
	at, is := slices.BinarySearch(l, x)
	if is {
		return l
	}
	return slices.Insert(l, at, x)
}

// found is where a point is, and which objects go through there.
func found(t *testing.T, s api.Structure, p api.Point) (api.Place, []int64) {
	t.Helper()
	x, e := locate.Where(s, p)
	l, f := locate.Through(s, x)
	if e != api.OK || f != api.OK {
		t.Fatal(p, x, e, f)
	}
	return x, l
}

// round is the faces round a place.
func round(t *testing.T, s api.Structure, x api.Place) []int {
	t.Helper()
	l, e := locate.Faces(s, x)
	if e != api.OK {
		t.Fatal(x, e)
	}
	return l
}

func TestTheObjectsThroughAPointAreThoseOfTheCurvesThatHaveIt(t *testing.T) {
	below := dice(17)
	var many, none int
	drawings(63, func(l []api.Curve) {
		s := made(t, l...)
		for _, p := range drawn(s).asked(below) {
			var wanted []int64
			for _, c := range l {
				if on, e := seg.On(c.Seg, p); e != api.OK {
					t.Fatal(c, p, e)
				} else if on {
					wanted = put(wanted, c.ID)
				}
			}
			x, ids := found(t, s, p)
			if !slices.Equal(ids, wanted) || (x.Kind == api.AtFace) != (len(wanted) == 0) {
				t.Fatal(l, p, x, ids, wanted)
			}
			if len(wanted) == 0 {
				none++
			}
			if len(wanted) > 1 {
				many++
			}
		}
	})
	if many < 99 || none < 999 {
		t.Error("not all are there", many, none)
	}
}

func TestAPointInAFaceIsWithinTheBoxOfAllPoints(t *testing.T) {
	below := dice(19)
	went := 0
	drawings(63, func(l []api.Curve) {
		s := made(t, l...)
		d := drawn(s)
		for _, p := range d.asked(below) {
			x, _ := found(t, s, p)
			if x.Kind != api.AtFace || x.At == 0 {
				continue
			}
			at := pairOf(p)
			has := func(is func(own pair) bool) bool { return slices.ContainsFunc(d.l, is) }
			if !has(func(own pair) bool { return own.x.Cmp(at.x) < 0 }) || !has(func(own pair) bool { return own.x.Cmp(at.x) > 0 }) ||
				!has(func(own pair) bool { return own.y.Cmp(at.y) < 0 }) || !has(func(own pair) bool { return own.y.Cmp(at.y) > 0 }) {
				t.Fatal(l, p, x)
			}
			went++
		}
	})
	if went < 999 {
		t.Error("few were asked", went)
	}
}

func TestMovedWithAllAPlaceIsTheSame(t *testing.T) {
	below := dice(23)
	went := map[api.PlaceKind]int{}
	drawings(36, func(l []api.Curve) {
		s := made(t, l...)
		points := drawn(s).asked(below)
		for _, by := range [][2]int64{{1, 0}, {0, -1}, {-7, 12345}, {most - 99, 99 - most}} {
			others, may := changed(l, func(n api.Node) api.Node { return api.Node{X: n.X + by[0], Y: n.Y + by[1]} })
			if !may {
				continue
			}
			moved := made(t, others...)
			for _, p := range points {
				there, e := point.Move(p, by[0], by[1])
				if e != api.OK {
					continue
				}
				x, ids := found(t, s, p)
				y, objects := found(t, moved, there)
				if y != x || !slices.Equal(objects, ids) || !slices.Equal(round(t, moved, y), round(t, s, x)) {
					t.Fatal(l, by, p, x, ids, y, objects)
				}
				went[x.Kind]++
			}
		}
	})
	if min(went[api.AtPoint], went[api.AtEdge], went[api.AtFace]) < 499 {
		t.Error("little was moved", went)
	}
}

// turned is the point on the other side of 0 0.
func turned(t *testing.T, p api.Point) api.Point {
	x, e := ratio.Sub(ratio.Of(0), p.X)
	y, f := ratio.Sub(ratio.Of(0), p.Y)
	if e != api.OK || f != api.OK {
		t.Fatal(p, e, f)
	}
	return api.Point{X: x, Y: y}
}

func TestTurnedByHalfAPlaceIsOfTheSameKind(t *testing.T) {
	below := dice(29)
	drawings(63, func(l []api.Curve) {
		s := made(t, l...)
		others, may := changed(l, func(n api.Node) api.Node { return api.Node{X: -n.X, Y: -n.Y} })
		if !may {
			t.Fatal(l)
		}
		half := made(t, others...)
		for _, p := range drawn(s).asked(below) {
			x, ids := found(t, s, p)
			y, objects := found(t, half, turned(t, p))
			if y.Kind != x.Kind || !slices.Equal(objects, ids) || len(round(t, half, y)) != len(round(t, s, x)) || (x == at(api.AtFace, 0)) != (y == at(api.AtFace, 0)) {
				t.Fatal(l, p, x, ids, y, objects)
			}
		}
	})
}

func TestPlacesHangNeitherOnOrderNorOnEnds(t *testing.T) {
	below := dice(31)
	drawings(45, func(l []api.Curve) {
		s := made(t, l...)
		for i, c := range l {
			l[i].Seg = api.Seg{A: c.Seg.B, B: c.Seg.A}
		}
		slices.Reverse(l)
		other := made(t, l...)
		for _, p := range drawn(s).asked(below) {
			x, ids := found(t, s, p)
			y, objects := found(t, other, p)
			if x != y || !slices.Equal(ids, objects) || !slices.Equal(round(t, s, x), round(t, other, y)) {
				t.Fatal(l, p, x, ids, y, objects)
			}
		}
	})
}

// nearby is the point so little from a point that nothing else is nearer in drawings that are not wide.
func nearby(t *testing.T, p pair, x, y int64) api.Point {
	t.Helper()
	at, may := spotOf(pair{new(big.Rat).Add(p.x, big.NewRat(x, 1<<40)), new(big.Rat).Add(p.y, big.NewRat(y, 1<<40))})
	if !may {
		t.Fatal(p, x, y)
	}
	return at
}

// narrow hands over drawings as drawings does, none of which is wide.
func narrow(many int, do func(l []api.Curve)) {
	below := dice(43)
	for n := range many {
		var l []api.Curve
		for range n % 7 {
			l = append(l, figure(below, false)...)
		}
		do(l)
	}
}

// TestTheFacesRoundAPlaceAreThoseCloseBesideIt asks in each gap between ways that leave a point, and on both sides of
// each edge.
func TestTheFacesRoundAPlaceAreThoseCloseBesideIt(t *testing.T) {
	widest := 0
	narrow(90, func(l []api.Curve) {
		s := made(t, l...)
		d := drawn(s)
		face := func(p api.Point) int {
			x, _ := found(t, s, p)
			if x.Kind != api.AtFace {
				t.Fatal(l, p, x)
			}
			return x.At
		}
		for i, own := range d.l {
			var ways []api.Way
			for _, h := range dcel.Leaves(s.Plan, s.Mesh, i) {
				w, _ := dcel.Way(s.Plan, h)
				ways = append(ways, w)
			}
			var wanted []int
			for w, v := range angle.Round(ways...) {
				x, y := w.X+v.X, w.Y+v.Y // between them, if it is less than half a turn from the one to the other
				if w.X*v.Y <= w.Y*v.X {
					x, y = -w.Y, w.X
				}
				wanted = put(wanted, face(nearby(t, own, x, y)))
			}
			if got := round(t, s, at(api.AtPoint, i)); !slices.Equal(got, wanted) {
				t.Fatal(l, i, got, wanted)
			}
			widest = max(widest, len(wanted))
		}
		for k, e := range s.Plan.Edges {
			middle := between(d.l[e.A], d.l[e.B], big.NewRat(1, 2))
			wanted := put([]int{face(nearby(t, middle, -e.Way.Y, e.Way.X))}, face(nearby(t, middle, e.Way.Y, -e.Way.X)))
			if got := round(t, s, at(api.AtEdge, k)); !slices.Equal(got, wanted) {
				t.Fatal(l, k, got, wanted)
			}
		}
	})
	if widest < 5 {
		t.Error("none has many", widest)
	}
}
