package dcel_test

import (
	"math"
	"slices"
	"testing"

	"merestone/api"
	"merestone/dcel"
	"merestone/split"
)

// square is one of so many on each side, from so far on.
func square(id, from, side int64) []api.Curve {
	to := from + side
	return along(id, [2]int64{from, from}, [2]int64{to, from}, [2]int64{to, to}, [2]int64{from, to})
}

func TestBuild(t *testing.T) {
	var within, apart int
	lists(24, func(l []api.Curve) {
		p := planned(t, l...)
		wanted := meshOf(p)
		if got := dcel.Build(p); !same(got, wanted) {
			t.Fatal(l, got, wanted)
		}
		if count(wanted) > 1 {
			apart++
		}
		if len(wanted.Outside) > 2*count(wanted) {
			within++
		}
	})
	if within == 0 || apart == 0 {
		t.Error("not all are there", within, apart)
	}
}

func TestBuildRows(t *testing.T) {
	for _, c := range []struct {
		what string
		l    []api.Curve
		want api.Mesh
	}{
		{"nothing", nil, api.Mesh{}},
		{"one", []api.Curve{curve(1, 2, 0, 0, 0)}, api.Mesh{From: []int{0, 1}, Next: []int{1, 0}, Cycle: []int{0, 0}, Outside: []bool{true}}},
		{"upright", []api.Curve{curve(1, 0, 2, 0, -2)}, api.Mesh{From: []int{0, 1}, Next: []int{1, 0}, Cycle: []int{0, 0}, Outside: []bool{true}}},
		{"two apart", []api.Curve{curve(1, 0, 0, 1, 0), curve(1, 0, 1, 1, 1)}, // 0-2, 1-3
			api.Mesh{From: []int{0, 2, 1, 3}, Next: []int{1, 0, 3, 2}, Cycle: []int{0, 0, 1, 1}, Outside: []bool{true, true}}},
		{"two on one line", []api.Curve{curve(1, 0, 0, 2, 0), curve(1, 1, 0, 3, 0)}, // 0-1, 1-2, 2-3
			api.Mesh{From: []int{0, 1, 1, 2, 2, 3}, Next: []int{2, 0, 4, 1, 5, 3}, Cycle: []int{0, 0, 0, 0, 0, 0}, Outside: []bool{true}}},
		{"triangle", along(1, [2]int64{0, 0}, [2]int64{2, 0}, [2]int64{0, 2}), // 0-1 upwards, 0-2 to the right, 1-2
			api.Mesh{From: []int{0, 1, 0, 2, 1, 2}, Next: []int{4, 2, 5, 0, 3, 1}, Cycle: []int{0, 1, 1, 0, 0, 1}, Outside: []bool{true, false}}},
		{"cross", []api.Curve{curve(1, 0, 0, 2, 2), curve(2, 0, 2, 2, 0)}, // 0-2, 1-2, 2-3 down, 2-4 up
			api.Mesh{From: []int{0, 2, 1, 2, 2, 3, 2, 4}, Next: []int{3, 0, 6, 2, 5, 1, 7, 4}, Cycle: []int{0, 0, 0, 0, 0, 0, 0, 0}, Outside: []bool{true}}},
		{"flag at the least point", slices.Concat(along(1, [2]int64{0, 0}, [2]int64{3, 0}, [2]int64{0, 3}), []api.Curve{curve(2, 0, 0, 1, 1)}), // 0-1 up, 0-2 within, 0-3, 1-3
			api.Mesh{From: []int{0, 1, 0, 2, 0, 3, 1, 3}, Next: []int{6, 2, 3, 4, 7, 0, 5, 1}, Cycle: []int{0, 1, 1, 1, 1, 0, 0, 1}, Outside: []bool{true, false}}},
		{"flag to the left", slices.Concat(along(1, [2]int64{0, 0}, [2]int64{3, 0}, [2]int64{0, 3}), []api.Curve{curve(2, -1, 0, 0, 0)}), // 0-1, 1-2 up, 1-3, 2-3
			api.Mesh{From: []int{0, 1, 1, 2, 1, 3, 2, 3}, Next: []int{2, 0, 6, 4, 7, 1, 5, 3}, Cycle: []int{0, 0, 0, 1, 1, 0, 0, 1}, Outside: []bool{true, false}}},
	} {
		if got := dcel.Build(planned(t, c.l...)); !same(got, c.want) {
			t.Error(c.what, got)
		}
	}
}

func TestHowManyCycles(t *testing.T) {
	for _, c := range []struct {
		what            string
		l               []api.Curve
		halves, in, out int
	}{
		{"one within another", slices.Concat(square(1, 0, 4), square(2, 1, 2)), 16, 2, 2},
		{"a segment within", slices.Concat(square(1, 0, 4), []api.Curve{curve(2, 1, 1, 2, 1)}), 10, 1, 2},
		{"corner at corner", slices.Concat(square(1, 0, 2), square(2, 2, 2)), 16, 2, 1},
		{"corner within corner", slices.Concat(square(1, 0, 4), square(2, 0, 2)), 16, 2, 1},
		{"across one another", slices.Concat(square(1, 0, 4), square(2, 2, 4)), 24, 3, 1},
		{"twice", slices.Concat(square(1, 0, 4), square(2, 0, 4)), 8, 1, 1},
		{"all ways", []api.Curve{curve(4, -1, -1, 1, 1), curve(3, -1, 1, 1, -1), curve(2, 0, -1, 0, 1), curve(1, 1, 0, -1, 0)}, 16, 0, 1},
		{"at the bound", along(1, [2]int64{-most, -most}, [2]int64{most, -most}, [2]int64{most, most}, [2]int64{-most, most}), 8, 1, 1},
		{"slender", along(1, [2]int64{-most, -most}, [2]int64{most, most}, [2]int64{most - 1, most}), 6, 1, 1},
	} {
		m := dcel.Build(planned(t, c.l...))
		out := count(m)
		if len(m.From) != c.halves || len(m.Next) != c.halves || len(m.Cycle) != c.halves || len(m.Outside)-out != c.in || out != c.out {
			t.Error(c.what, m)
		}
	}
}

// net is so many curves to the right and as many upwards, each across each.
func net(many int64) []api.Curve {
	var l []api.Curve
	for i := range many {
		l = append(l, curve(1, -1, i, many, i), curve(2, i, many, i, -1))
	}
	return l
}

// star is so many curves through one point, each of a line of its own.
func star(many int64) []api.Curve {
	var l []api.Curve
	for i := range many {
		l = append(l, curve(1+i, -most, i-many/2, most, many/2-i))
	}
	return l
}

func TestAsManyAsMayBe(t *testing.T) {
	p := planned(t, net(api.MaxCorners/2)...)
	m := dcel.Build(p)
	if len(m.From) != 4*256*257 || len(m.Outside) != 255*255+1 || count(m) != 1 || !m.Outside[0] {
		t.Error(len(m.From), len(m.Outside), count(m))
	}
	rim := slices.Collect(dcel.Round(m, 0))
	if len(rim) != 4*255+8*256 || !slices.ContainsFunc(rim, func(h int) bool { return m.Next[h] == 0 }) {
		t.Error(len(rim))
	}
	p = planned(t, star(api.MaxCorners)...)
	m = dcel.Build(p)
	if len(m.From) != 4*512 || len(m.Outside) != 1 || !m.Outside[0] {
		t.Error(len(m.From), m.Outside)
	}
	middle, e := dcel.To(m, 0)
	if got := dcel.Leaves(p, m, middle); e != api.OK || len(got) != 1024 || !slices.Equal(got, leaving(p, middle)) {
		t.Error(middle, e, got)
	}
}

func TestTwinToWay(t *testing.T) {
	lists(14, func(l []api.Curve) {
		p := planned(t, l...)
		m := dcel.Build(p)
		many := 2 * len(p.Edges)
		for h := range many {
			twin, e := dcel.Twin(m, h)
			to, f := dcel.To(m, h)
			w, g := dcel.Way(p, h)
			if twin != other(h) || to != ends(p, h) || w != way(p, h) || e != api.OK || f != api.OK || g != api.OK {
				t.Fatal(l, h, twin, to, w, e, f, g)
			}
		}
		for _, h := range strange(many) {
			twin, e := dcel.Twin(m, h)
			to, f := dcel.To(m, h)
			w, g := dcel.Way(p, h)
			if twin != 0 || to != 0 || w != (api.Way{}) || e != api.ErrRange || f != api.ErrRange || g != api.ErrRange {
				t.Fatal(l, h, twin, to, w, e, f, g)
			}
		}
	})
}

func TestTwinToWayRows(t *testing.T) {
	p := planned(t, along(1, [2]int64{0, 0}, [2]int64{2, 0}, [2]int64{0, 2})...)
	m := dcel.Build(p)
	for h, c := range []struct {
		twin, to int
		way      api.Way
	}{{1, 1, api.Way{Y: 1}}, {0, 0, api.Way{Y: -1}}, {3, 2, api.Way{X: 1}}, {2, 0, api.Way{X: -1}}, {5, 2, api.Way{X: 1, Y: -1}}, {4, 1, api.Way{X: -1, Y: 1}}} {
		twin, e := dcel.Twin(m, h)
		to, f := dcel.To(m, h)
		w, g := dcel.Way(p, h)
		if twin != c.twin || to != c.to || w != c.way || e != api.OK || f != api.OK || g != api.OK {
			t.Error(h, twin, to, w, e, f, g)
		}
	}
}

func TestRound(t *testing.T) {
	lists(14, func(l []api.Curve) {
		p := planned(t, l...)
		m := dcel.Build(p)
		wanted := meshOf(p)
		for h := range m.Next {
			cycle := []int{h}
			for g := wanted.Next[h]; g != h; g = wanted.Next[g] {
				cycle = append(cycle, g)
			}
			if got := slices.Collect(dcel.Round(m, h)); !slices.Equal(got, cycle) {
				t.Fatal(l, h, got, cycle)
			}
		}
		for _, h := range strange(len(m.Next)) {
			if got := slices.Collect(dcel.Round(m, h)); len(got) > 0 {
				t.Fatal(l, h, got)
			}
		}
	})
}

func TestRoundIsLeftAndGoneOverAgain(t *testing.T) {
	m := dcel.Build(planned(t, along(1, [2]int64{0, 0}, [2]int64{2, 0}, [2]int64{0, 2})...))
	wanted := []int{2, 5, 1}
	round := dcel.Round(m, 2)
	clear(m.Next) // what was handed in is not kept
	clear(m.Cycle)
	for n := range len(wanted) + 1 {
		var got []int
		for h := range round {
			if len(got) == n {
				break
			}
			got = append(got, h)
		}
		if !slices.Equal(got, wanted[:n]) {
			t.Error(n, got)
		}
	}
	for range round { // one within another
		if got := slices.Collect(round); !slices.Equal(got, wanted) {
			t.Error(got)
		}
	}
}

func TestLeaves(t *testing.T) {
	widest := 0
	lists(14, func(l []api.Curve) {
		p := planned(t, l...)
		m := dcel.Build(p)
		for i := range p.Points {
			got := dcel.Leaves(p, m, i)
			if !slices.Equal(got, leaving(p, i)) {
				t.Fatal(l, i, got)
			}
			widest = max(widest, len(got))
		}
		for _, i := range strange(len(p.Points)) {
			if got := dcel.Leaves(p, m, i); len(got) > 0 {
				t.Fatal(l, i, got)
			}
		}
	})
	if widest < 6 {
		t.Error("none has many", widest)
	}
}

func TestLeavesRows(t *testing.T) {
	p := planned(t, curve(1, 0, 0, 2, 2), curve(2, 0, 2, 2, 0))
	for i, wanted := range [][]int{{0}, {2}, {6, 3, 1, 4}, {5}, {7}} {
		if got := dcel.Leaves(p, dcel.Build(p), i); !slices.Equal(got, wanted) {
			t.Error(i, got)
		}
	}
	p = planned(t, curve(4, -1, -1, 1, 1), curve(3, -1, 1, 1, -1), curve(2, 0, -1, 0, 1), curve(1, 1, 0, -1, 0))
	if got := dcel.Leaves(p, dcel.Build(p), 4); !slices.Equal(got, []int{12, 14, 8, 5, 3, 1, 7, 10}) {
		t.Error(got)
	}
}

func TestOfNothing(t *testing.T) {
	for _, p := range []api.Plan{{}, {Points: []api.Point{}, Edges: []api.Edge{}}} {
		m := dcel.Build(p)
		for _, h := range append(strange(0), 0, 1) {
			_, e := dcel.Twin(m, h)
			_, f := dcel.To(m, h)
			_, g := dcel.Way(p, h)
			if e != api.ErrRange || f != api.ErrRange || g != api.ErrRange || len(slices.Collect(dcel.Round(m, h)))+len(dcel.Leaves(p, m, h)) > 0 {
				t.Error(h, e, f, g)
			}
		}
	}
}

func TestWhatIsHandedInStaysAndAnswersAreNewMemory(t *testing.T) {
	l := slices.Concat(square(1, 0, 4), square(2, 2, 4))
	p, kept := planned(t, l...), planned(t, l...)
	m := dcel.Build(p)
	mesh := copied(m)
	for i := range p.Points {
		clear(dcel.Leaves(p, m, i))
	}
	for h := range m.From {
		for range dcel.Round(m, h) {
		}
	}
	if !same(m, mesh) || !split.Same(p, kept) {
		t.Error("what was handed in is changed", p, m)
	}
	for h := range m.From { // no two lists share any
		m.From[h], m.Next[h], m.Cycle[h] = 7, 8, 9
	}
	for h := range m.From {
		if m.From[h] != 7 || m.Next[h] != 8 || m.Cycle[h] != 9 {
			t.Fatal(h, m)
		}
	}
	clear(m.Outside)
	if !same(dcel.Build(p), mesh) {
		t.Error("not the same again")
	}
}

// noPlans are such as layer 12 makes none of.
func noPlans(t *testing.T) []api.Plan {
	fit := planned(t, slices.Concat(square(1, 0, 4), square(2, 2, 4))...)
	turned := slices.Clone(fit.Points)
	slices.Reverse(turned)
	ways := []api.Way{{}, {X: 1}, {X: 1}, {X: 2}, {Y: -3}, {X: 1 << 28}, {X: math.MinInt64, Y: math.MaxInt64}, {X: math.MinInt64, Y: math.MinInt64}}
	var edges []api.Edge
	for i, a := range []int{0, 1, 0, 2, -1, 3, 5, math.MaxInt, math.MinInt} {
		for j, b := range []int{0, 2, -1, 1, 4, 5, math.MinInt, math.MaxInt} {
			edges = append(edges, api.Edge{A: a, B: b, Way: ways[(i+j)%len(ways)]})
		}
	}
	return []api.Plan{
		{Points: turned, Edges: fit.Edges}, {Edges: fit.Edges}, {Points: fit.Points[:3], Edges: fit.Edges}, {Points: fit.Points},
		{Points: fit.Points, Edges: edges}, {Edges: edges}, {Points: make([]api.Point, 9), Edges: make([]api.Edge, 99)},
		{Points: fit.Points, Edges: slices.Concat(fit.Edges, fit.Edges, edges[:5])}, {Points: fit.Points, Edges: edges[:1]},
	}
}

func TestOfNoPlansToo(t *testing.T) {
	for n, p := range noPlans(t) {
		m := dcel.Build(p)
		many := 2 * len(p.Edges)
		if len(m.From) != many || len(m.Next) != many || len(m.Cycle) != many {
			t.Fatal(n, m)
		}
		var all []int
		for c := range m.Outside {
			all = slices.AppendSeq(all, dcel.Round(m, slices.Index(m.Cycle, c)))
		}
		slices.Sort(all)
		if len(all) != many || len(slices.Compact(all)) != many { // each half edge is of one cycle still
			t.Error(n, all)
		}
		for _, i := range append(strange(len(p.Points)), 0, 1, 2) {
			dcel.Leaves(p, m, i)
			dcel.Leaves(p, api.Mesh{}, i)
			dcel.Way(p, i)
		}
		if !same(m, dcel.Build(p)) {
			t.Error(n, "not the same again")
		}
	}
}

func TestOfNoMeshesToo(t *testing.T) {
	wild := []int{3, 0, -1, 3, 5, 4, math.MaxInt, math.MinInt, 9}
	for _, c := range []struct {
		next []int
		h    int
		want []int
	}{
		{wild, 0, []int{0, 3}}, {wild, 1, []int{1, 0, 3}}, {wild, 2, []int{2}}, {wild, 3, []int{3}}, {wild, 4, []int{4, 5}}, {wild, 5, []int{5, 4}},
		{wild, 6, []int{6}}, {wild, 7, []int{7}}, {wild, 8, []int{8}}, {wild, 9, nil}, {nil, 0, nil}, {[]int{0}, 0, []int{0}}, {[]int{1}, 0, []int{0}},
	} {
		for _, m := range []api.Mesh{{Next: c.next}, {From: wild, Next: c.next, Cycle: wild, Outside: []bool{true}}} {
			if got := slices.Collect(dcel.Round(m, c.h)); !slices.Equal(got, c.want) {
				t.Error(c.next, c.h, got)
			}
		}
	}
	m := api.Mesh{From: wild} // the last half edge has no twin
	for _, h := range strange(len(wild) - 1) {
		twin, e := dcel.Twin(m, h)
		to, f := dcel.To(m, h)
		if twin != 0 || to != 0 || e != api.ErrRange || f != api.ErrRange {
			t.Error(h, twin, to, e, f)
		}
	}
	p := planned(t, square(1, 0, 4)...)
	for i := range p.Points {
		if got := dcel.Leaves(p, m, i); !slices.Equal(got, leaving(p, i)) {
			t.Error(i, got)
		}
	}
}
