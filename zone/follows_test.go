package zone_test

import (
	"slices"
	"testing"

	"merestone/api"
	"merestone/cross"
	"merestone/point"
	"merestone/seg"
	"merestone/zone"
)

// zoned is the zone of a segment that may be.
func zoned(t *testing.T, s api.Structure, one api.Seg) api.Zone {
	t.Helper()
	z, e := zone.Of(s, one)
	if e != api.OK {
		t.Fatal(one, e)
	}
	return z
}

func TestTheZoneIsThatOfTheSegmentTurned(t *testing.T) {
	below := dice(11)
	drawings(63, func(l []api.Curve) {
		s := made(t, l...)
		for _, one := range asked(l, below) {
			turned := api.Seg{A: one.B, B: one.A}
			if y, z := zoned(t, s, turned), zoned(t, s, one); !sameZone(y, z) || !agree(s, turned, z) {
				t.Fatal(l, one, z, y)
			}
		}
	})
}

func TestTheZoneHangsNeitherOnOrderNorOnEnds(t *testing.T) {
	below := dice(13)
	drawings(63, func(l []api.Curve) {
		s := made(t, l...)
		segments := asked(l, below)
		for i, c := range l {
			l[i].Seg = api.Seg{A: c.Seg.B, B: c.Seg.A}
		}
		slices.Reverse(l)
		other := made(t, l...)
		for _, one := range segments {
			if y, z := zoned(t, other, one), zoned(t, s, one); !sameZone(y, z) {
				t.Fatal(l, one, z, y)
			}
		}
	})
}

// met is in what two segments meet.
func met(t *testing.T, a, b api.Seg) api.Meet {
	t.Helper()
	m, e := cross.Meet(a, b)
	if e != api.OK {
		t.Fatal(a, b, e)
	}
	return m
}

func TestTheObjectsAreThoseOfTheCurvesThatMeetTheSegment(t *testing.T) {
	below := dice(17)
	went := 0
	drawings(90, func(l []api.Curve) {
		s := made(t, l...)
		for _, one := range asked(l, below) {
			var wanted []int64
			for _, c := range l {
				if met(t, c.Seg, one).Kind != api.MeetNone {
					wanted = put(wanted, c.ID)
				}
			}
			if z := zoned(t, s, one); !slices.Equal(z.IDs, wanted) || (len(wanted) == 0) != (len(z.Edges) == 0) {
				t.Fatal(l, one, z, wanted)
			}
			went += len(wanted)
		}
	})
	if went < 999 {
		t.Error("few were met", went)
	}
}

// onPiece tells if a point is on the piece in which two segments meet.
func onPiece(t *testing.T, m api.Meet, p api.Point) bool {
	t.Helper()
	a, e := point.Cmp(m.P, p)
	b, f := point.Cmp(p, m.Q)
	if e != api.OK || f != api.OK {
		t.Fatal(m, p, e, f)
	}
	return a == 0 || b == 0 || a == b
}

func TestItGoesAlongAnEdgeOfACurveIfBothShareAPieceThatHasIt(t *testing.T) {
	below := dice(19)
	var went, partly int
	drawings(36, func(l []api.Curve) {
		s := made(t, l...)
		points := s.Plan.Points
		for _, one := range asked(l, below) {
			z := zoned(t, s, one)
			for _, c := range l {
				m := met(t, c.Seg, one)
				for k, e := range s.Plan.Edges {
					onA, _ := seg.On(c.Seg, points[e.A])
					onB, _ := seg.On(c.Seg, points[e.B])
					if !onA || !onB {
						continue // no edge of this curve
					}
					wanted := m.Kind == api.MeetPiece && onPiece(t, m, points[e.A]) && onPiece(t, m, points[e.B])
					if is := slices.Contains(z.Along, k); is != wanted {
						t.Fatal(l, one, k, z, wanted)
					}
					if wanted {
						went++
					} else if m.Kind == api.MeetPiece {
						partly++
					}
				}
			}
		}
	})
	if went < 999 || partly < 99 {
		t.Error("few were gone along", went, partly)
	}
}

func TestMovedWithAllTheZoneIsTheSame(t *testing.T) {
	below := dice(23)
	went := 0
	drawings(63, func(l []api.Curve) {
		s := made(t, l...)
		segments := asked(l, below)
		for _, by := range [][2]int64{{1, 0}, {0, -1}, {-7, 12345}, {most - 99, 99 - most}} {
			move := func(n api.Node) api.Node { return api.Node{X: n.X + by[0], Y: n.Y + by[1]} }
			others, may := changed(l, move)
			if !may {
				continue
			}
			moved := made(t, others...)
			for _, one := range segments {
				there := api.Seg{A: move(one.A), B: move(one.B)}
				if seg.Check(there) != api.OK {
					continue
				}
				if y, z := zoned(t, moved, there), zoned(t, s, one); !sameZone(y, z) {
					t.Fatal(l, by, one, z, y)
				}
				went++
			}
		}
	})
	if went < 999 {
		t.Error("little was moved", went)
	}
}

func TestTurnedByHalfTheZoneHasAsManyOfEachKind(t *testing.T) {
	below := dice(29)
	drawings(63, func(l []api.Curve) {
		s := made(t, l...)
		turn := func(n api.Node) api.Node { return api.Node{X: -n.X, Y: -n.Y} }
		others, may := changed(l, turn)
		if !may {
			t.Fatal(l)
		}
		half := made(t, others...)
		for _, one := range asked(l, below) {
			y, z := zoned(t, half, api.Seg{A: turn(one.A), B: turn(one.B)}), zoned(t, s, one)
			if len(y.Points) != len(z.Points) || len(y.Edges) != len(z.Edges) || len(y.Along) != len(z.Along) || len(y.Cut) != len(z.Cut) || !slices.Equal(y.IDs, z.IDs) {
				t.Fatal(l, one, z, y)
			}
		}
	})
}
