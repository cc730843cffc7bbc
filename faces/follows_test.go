package faces_test

import (
	"slices"
	"testing"

	"merestone/api"
	"merestone/faces"
	"merestone/point"
	"merestone/split"
)

func TestEachHalfEdgeIsOfOneFaceAndEachCycleThereOnce(t *testing.T) {
	lists(9, func(l []api.Curve) {
		p, m := planned(t, l...)
		f := faces.Build(p, m)
		var halves []int
		for i := range f.Border {
			halves = slices.AppendSeq(halves, faces.Halves(m, f, i))
		}
		slices.Sort(halves)
		if len(halves) != 2*len(p.Edges) || len(slices.Compact(halves)) != 2*len(p.Edges) {
			t.Fatal(l, halves)
		}
		cycles := slices.Concat(append(f.Holes, f.Border[1:])...)
		slices.Sort(cycles)
		if len(cycles) != len(m.Outside) || len(slices.Compact(cycles)) != len(m.Outside) || len(f.Of) != len(m.Outside) || f.Border[0] != -1 {
			t.Fatal(l, f, m.Outside)
		}
		for i, border := range f.Border[1:] {
			if f.Of[border] != 1+i || m.Outside[border] {
				t.Fatal(l, f, m.Outside)
			}
		}
		for i, holes := range f.Holes {
			if slices.ContainsFunc(holes, func(c int) bool { return f.Of[c] != i || !m.Outside[c] }) || !slices.IsSorted(holes) {
				t.Fatal(l, f, m.Outside)
			}
		}
	})
}

func TestEuler(t *testing.T) {
	many := 0
	lists(9, func(l []api.Curve) {
		p, m := planned(t, l...)
		parts := 0
		for range split.Parts(p) {
			parts++
		}
		if n := len(p.Points) - len(p.Edges) + len(faces.Build(p, m).Border) - parts; n != 1 {
			t.Fatal(l, n)
		}
		many = max(many, parts)
	})
	if many < 4 {
		t.Error("none has many parts", many)
	}
}

func TestWhatPartsFaces(t *testing.T) {
	var parts, none int
	lists(9, func(l []api.Curve) {
		p, m := planned(t, l...)
		f := faces.Build(p, m)
		for k := range p.Edges {
			left, e := faces.Face(m, f, 2*k)
			right, g := faces.Face(m, f, 2*k+1)
			one := m.Cycle[2*k] == m.Cycle[2*k+1]
			beside := slices.Contains(faces.Beside(m, f, left), right) && slices.Contains(faces.Beside(m, f, right), left)
			if e != api.OK || g != api.OK || one != (left == right) || one == beside {
				t.Fatal(l, k, left, right, e, g)
			}
			if one {
				none++
			} else {
				parts++
			}
		}
	})
	if parts < 99 || none < 99 {
		t.Error("not all are there", parts, none)
	}
}

func TestMovedWithAllTheyAreTheSame(t *testing.T) {
	below := dice()
	went := 0
	lists(9, func(l []api.Curve) {
		p, m := planned(t, l...)
		f := faces.Build(p, m)
		for _, d := range [][2]int64{{1, 0}, {0, -1}, {-7, 12345}, {most - 99, 99 - most}} {
			far, may := changed(l, func(n api.Node) api.Node { return api.Node{X: n.X + d[0], Y: n.Y + d[1]} })
			if !may {
				continue
			}
			q, n := planned(t, far...)
			if got := faces.Build(q, n); !same(got, f) {
				t.Fatal(l, d, got, f)
			}
			for _, at := range asked(t, p, below) {
				moved, e := point.Move(at, d[0], d[1])
				if e != api.OK {
					continue
				}
				k, is, g := faces.Under(p, at)
				if other, there, h := faces.Under(q, moved); other != k || there != is || g != api.OK || h != api.OK {
					t.Fatal(l, d, at, k, is, g, other, there, h)
				}
				went++
			}
		}
	})
	if went < 9999 {
		t.Error("little was moved", went)
	}
}

func TestTurnedByHalfRoundThereAreAsMany(t *testing.T) {
	lists(9, func(l []api.Curve) {
		p, m := planned(t, l...)
		f := faces.Build(p, m)
		turned, may := changed(l, func(n api.Node) api.Node { return api.Node{X: -n.X, Y: -n.Y} })
		q, n := planned(t, turned...)
		got := faces.Build(q, n)
		if !may || len(got.Border) != len(f.Border) || len(got.Of) != len(f.Of) || len(got.Holes[0]) != len(f.Holes[0]) || len(slices.Concat(got.Holes...)) != len(slices.Concat(f.Holes...)) {
			t.Fatal(l, got, f)
		}
	})
}

func TestTheyHangNeitherOnOrderNorOnEnds(t *testing.T) {
	lists(9, func(l []api.Curve) {
		p, m := planned(t, l...)
		f := faces.Build(p, m)
		for i, c := range l {
			l[i].Seg = api.Seg{A: c.Seg.B, B: c.Seg.A}
		}
		slices.Reverse(l)
		q, n := planned(t, l...)
		if got := faces.Build(q, n); !same(got, f) {
			t.Fatal(l, got, f)
		}
	})
}
