package dcel_test

import (
	"slices"
	"testing"

	"merestone/api"
	"merestone/dcel"
	"merestone/split"
)

func TestNextIsAPermutationAndTwinItsOwnInverse(t *testing.T) {
	lists(14, func(l []api.Curve) {
		m := dcel.Build(planned(t, l...))
		sorted := slices.Sorted(slices.Values(m.Next))
		for h := range m.From {
			twin, e := dcel.Twin(m, h)
			back, f := dcel.Twin(m, twin)
			to, g := dcel.To(m, h)
			if sorted[h] != h || twin == h || back != h || to != m.From[twin] || e != api.OK || f != api.OK || g != api.OK {
				t.Fatal(l, h, twin, back, to, e, f, g)
			}
			if m.From[m.Next[h]] != to || m.Cycle[m.Next[h]] != m.Cycle[h] {
				t.Fatal(l, h, m)
			}
		}
	})
}

func TestCyclesComeByTheirLeastHalfEdges(t *testing.T) {
	lists(14, func(l []api.Curve) {
		m := dcel.Build(planned(t, l...))
		next := 0
		for h, c := range m.Cycle {
			if c > next || c < 0 {
				t.Fatal(l, h, m)
			}
			if c == next {
				next++
			}
		}
		if next != len(m.Outside) {
			t.Fatal(l, next, m)
		}
	})
}

func TestRoundEachPointTheTwinsComeAgainByTheirWays(t *testing.T) {
	lists(14, func(l []api.Curve) {
		p := planned(t, l...)
		m := dcel.Build(p)
		left := 0
		for i := range p.Points {
			leave := dcel.Leaves(p, m, i)
			left += len(leave)
			for k, h := range leave {
				behind := leave[(k+1)%len(leave)]
				if twin, e := dcel.Twin(m, behind); e != api.OK || m.From[h] != i || m.Next[twin] != h {
					t.Fatal(l, i, leave, m)
				}
			}
		}
		if left != len(m.From) {
			t.Fatal(l, left)
		}
	})
}

func TestEachPartHasOneThatIsOutside(t *testing.T) {
	lists(14, func(l []api.Curve) {
		p := planned(t, l...)
		m := dcel.Build(p)
		for part := range split.Parts(p) {
			halves := 0
			cycles := map[int]int{}
			for h, from := range m.From {
				if slices.Contains(part, from) {
					halves++
					cycles[m.Cycle[h]]++
				}
			}
			outside := 0
			for c := range cycles {
				if m.Outside[c] {
					outside++
				}
			}
			if outside != 1 || len(part)-halves/2+len(cycles) != 2 {
				t.Fatal(l, part, outside, len(cycles))
			}
		}
	})
}

func TestMovedWithAllItIsTheSame(t *testing.T) {
	went := 0
	lists(14, func(l []api.Curve) {
		m := dcel.Build(planned(t, l...))
		for _, d := range [][2]int64{{1, 0}, {0, -1}, {-7, 12345}, {most - 5, 5 - most}} {
			far, may := farther(l, d[0], d[1])
			if !may {
				continue
			}
			went += len(far)
			if got := dcel.Build(planned(t, far...)); !same(got, m) {
				t.Fatal(l, d, got, m)
			}
		}
	})
	if went == 0 {
		t.Error("nothing was moved")
	}
}

func TestTurnedByHalfRoundThereAreAsMany(t *testing.T) {
	lists(14, func(l []api.Curve) {
		m := dcel.Build(planned(t, l...))
		var turned []api.Curve
		for _, c := range l {
			turned = append(turned, curve(c.ID, -c.Seg.A.X, -c.Seg.A.Y, -c.Seg.B.X, -c.Seg.B.Y))
		}
		if got := dcel.Build(planned(t, turned...)); len(got.From) != len(m.From) || len(got.Outside) != len(m.Outside) || count(got) != count(m) {
			t.Fatal(l, got, m)
		}
	})
}

func TestItHangsNeitherOnOrderNorOnEnds(t *testing.T) {
	lists(14, func(l []api.Curve) {
		m := dcel.Build(planned(t, l...))
		for i, c := range l {
			l[i].Seg = api.Seg{A: c.Seg.B, B: c.Seg.A}
		}
		slices.Reverse(l)
		if got := dcel.Build(planned(t, l...)); !same(got, m) {
			t.Fatal(l, got, m)
		}
	})
}
