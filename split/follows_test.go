package split_test

import (
	"slices"
	"testing"

	"merestone/api"
	"merestone/point"
	"merestone/seg"
	"merestone/split"
)

// same tells a fault, if curves do not make this plan.
func same(t *testing.T, what string, wanted api.Plan, l []api.Curve) {
	t.Helper()
	if got := made(t, l...); !split.Same(got, wanted) {
		t.Fatal(what, l, told(got), told(wanted))
	}
}

func TestNeitherOrderNorEndsMatter(t *testing.T) {
	lists(11, func(l []api.Curve) {
		p := made(t, l...)
		for i := range l {
			c := l[i]
			l[i].Seg = api.Seg{A: c.Seg.B, B: c.Seg.A}
			same(t, "turned", p, l)
			same(t, "the last ones ahead", p, slices.Concat(l[i:], l[:i]))
		}
		slices.Reverse(l)
		same(t, "the other way round", p, l)
	})
}

func TestItIsMovedWithTheCurves(t *testing.T) {
	went := 0
	lists(11, func(l []api.Curve) {
		p := made(t, l...)
		for _, d := range [][2]int64{{1, 0}, {0, -1}, {-7, 12345}, {most - 5, 5 - most}} {
			var far []api.Curve
			for _, c := range l {
				far = append(far, curve(c.ID, c.Seg.A.X+d[0], c.Seg.A.Y+d[1], c.Seg.B.X+d[0], c.Seg.B.Y+d[1]))
			}
			if slices.ContainsFunc(far, func(c api.Curve) bool { return seg.Check(c.Seg) != api.OK }) {
				continue
			}
			went += len(l)
			wanted := api.Plan{Edges: p.Edges}
			for _, at := range p.Points {
				q, e := point.Move(at, d[0], d[1])
				if e != api.OK {
					t.Fatal(text(at), d, e)
				}
				wanted.Points = append(wanted.Points, q)
			}
			same(t, "moved", wanted, far)
		}
	})
	if went == 0 {
		t.Error("nothing was moved")
	}
}

func TestCurvesThatAreThereTwice(t *testing.T) {
	lists(11, func(l []api.Curve) {
		wanted := made(t, l...)
		for i, e := range wanted.Edges {
			var twice []int64
			for _, id := range e.IDs {
				twice = append(twice, id, id)
			}
			wanted.Edges[i].IDs = twice
		}
		same(t, "twice", wanted, slices.Concat(l, l))
	})
}

// apart tells if two edges meet in nothing but ends of both.
func apart(p api.Plan, e, f api.Edge) bool {
	a, b := spotAt(p.Points[e.A]), spotAt(p.Points[e.B])
	c, d := spotAt(p.Points[f.A]), spotAt(p.Points[f.B])
	within := func(p, q, r spot) bool { return isOn(p, q, r) && order(p, r) != 0 && order(q, r) != 0 }
	if within(a, b, c) || within(a, b, d) || within(c, d, a) || within(c, d, b) || e.A == f.A && e.B == f.B {
		return false
	}
	return turn(a, b, c)*turn(a, b, d) >= 0 || turn(c, d, a)*turn(c, d, b) >= 0
}

func TestNoTwoEdgesMeetButInEnds(t *testing.T) {
	lists(9, func(l []api.Curve) {
		p := made(t, l...)
		for i, e := range p.Edges {
			for _, f := range p.Edges[:i] {
				if !apart(p, e, f) {
					t.Fatal(l, e, f, told(p))
				}
			}
		}
	})
}

func TestWhatMakesAPoint(t *testing.T) {
	lists(11, func(l []api.Curve) {
		p := made(t, l...)
		for _, at := range p.Points {
			end := false
			lines := map[api.Way]int{}
			for _, c := range l {
				if is, e := seg.On(c.Seg, at); e != api.OK || !is {
					continue
				}
				lines[wayOf(c)]++
				for n := range seg.Nodes(c.Seg) {
					own, _ := point.Of(n)
					end = end || own == at
				}
			}
			if !end && len(lines) < 2 {
				t.Fatal(l, text(at))
			}
		}
	})
}

// walk goes along a curve, by edges of its object, and tells their places; it must come to the other end.
func walk(t *testing.T, p api.Plan, c api.Curve) []int {
	laid, _ := seg.Laid(c.Seg)
	from, _ := point.Of(laid.A)
	to, _ := point.Of(laid.B)
	at, is := split.Find(p, from)
	end, both := split.Find(p, to)
	if !is || !both {
		t.Fatal(c, told(p))
	}
	var went []int
	for at != end {
		k := slices.IndexFunc(p.Edges, func(e api.Edge) bool {
			return e.A == at && e.Way == wayOf(c) && slices.Contains(e.IDs, c.ID)
		})
		if k < 0 {
			t.Fatal(c, at, told(p))
		}
		went = append(went, k)
		at = p.Edges[k].B
	}
	return went
}

func TestEdgesOfAnObjectAreItsCurvesCut(t *testing.T) {
	lists(11, func(l []api.Curve) {
		p := made(t, l...)
		ids := make([][]int64, len(p.Edges))
		for _, c := range l {
			for _, k := range walk(t, p, c) {
				ids[k] = append(ids[k], c.ID)
			}
		}
		for k, e := range p.Edges {
			slices.Sort(ids[k])
			if !slices.Equal(e.IDs, ids[k]) {
				t.Fatal(l, k, ids[k], told(p))
			}
		}
	})
}

func TestDegreesArePartedByEnds(t *testing.T) {
	lists(11, func(l []api.Curve) {
		p := made(t, l...)
		sum := 0
		for i := range p.Points {
			n, e := split.Degree(p, i)
			if n == 0 || e != api.OK {
				t.Fatal(l, i, n, e)
			}
			sum += n
		}
		if sum != 2*len(p.Edges) {
			t.Fatal(l, sum)
		}
	})
}
