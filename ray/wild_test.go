package ray_test

import (
	"math"
	"slices"
	"testing"

	"merestone/api"
	"merestone/ray"
)

// noPlans are such as layer 12 makes none of.
func noPlans(t *testing.T) []api.Plan {
	fit := planned(t, slices.Concat(box(0, 0, 9), box(2, 2, 4), box(3, 3, 9))...)
	turned := slices.Clone(fit.Points)
	slices.Reverse(turned)
	var edges []api.Edge
	for i, a := range []int{0, 1, 0, 2, -1, 3, 5, math.MaxInt, math.MinInt} {
		for j, b := range []int{0, 2, -1, 1, 4, 5, 11, math.MinInt, math.MaxInt} {
			edges = append(edges, api.Edge{A: a, B: b, Way: api.Way{X: int64(i - 3), Y: int64(math.MinInt64 + j)}})
		}
	}
	// Heights between such points are too great for Ints.
	great := []api.Point{
		spot("-79228162514264337593543950334/18446744073709551615 79228162514264337593543950333/18446744073709551614"),
		spot("-7/18446744073709551613 -5/18446744073709551611"), spot("1/18446744073709551603 -5"),
		spot("79228162514264337593543950333/18446744073709551611 79228162514264337593543950331/18446744073709551557"),
	}
	return []api.Plan{
		{Points: turned, Edges: fit.Edges}, {Edges: fit.Edges}, {Points: fit.Points[:3], Edges: fit.Edges}, {Points: fit.Points}, {Points: fit.Points, Edges: edges}, {Edges: edges},
		{Points: wrongPoints(), Edges: edges}, {Points: wrongPoints(), Edges: fit.Edges}, {Points: make([]api.Point, 9), Edges: make([]api.Edge, 99)},
		{Points: fit.Points, Edges: slices.Concat(fit.Edges, fit.Edges)}, {Points: great, Edges: edges}, {Points: slices.Repeat(fit.Points[:1], 9), Edges: edges},
		{Points: slices.Concat(fit.Points, wrongPoints(), fit.Points), Edges: edges}, {Points: []api.Point{}, Edges: []api.Edge{}}, fit,
	}
}

// mayBeHit tells if a hit is of what the plan has, or none at all.
func mayBeHit(p api.Plan, h api.Hit) bool {
	switch h.Kind {
	case api.HitPoint:
		return h.At >= 0 && h.At < len(p.Points) && h.Y == p.Points[h.At].Y
	case api.HitEdge:
		return h.At >= 0 && h.At < len(p.Edges)
	}
	return h == api.Hit{}
}

func TestRaysThroughNoPlansToo(t *testing.T) {
	points := slices.Concat(wrongPoints(), []api.Point{spot("0 0"), spot("4 5"), spot("1/3 " + far), spot("79228162514264337593543950334/18446744073709551615 1"), spot("-1/18446744073709551533 1/18446744073709551521")})
	for n, p := range noPlans(t) {
		for _, at := range slices.Concat(points, p.Points) {
			for _, cast := range []func(api.Plan, api.Point) (api.Hit, api.Errno){ray.Down, ray.Up} {
				h, e := cast(p, at)
				if e != api.OK && (e != api.ErrArg || h != api.Hit{}) || !mayBeHit(p, h) {
					t.Error(n, at, h, e)
				}
				if again, f := cast(p, at); again != h || f != e {
					t.Error(n, at, "not the same again", h, e, again, f)
				}
			}
			l := slices.Collect(ray.Column(p, at.X))
			if slices.ContainsFunc(l, func(h api.Hit) bool { return h.Kind == api.HitNone || !mayBeHit(p, h) }) {
				t.Error(n, at, l)
			}
		}
	}
}

func TestHeightInNoPlansToo(t *testing.T) {
	told := map[api.Errno]int{}
	for n, p := range noPlans(t) {
		for _, x := range slices.Concat(wrongNumbers(), []api.Rat{number("0"), number("3"), number("9"), number("-1/18446744073709551533"), number(far)}) {
			for k := -1; k <= len(p.Edges); k++ {
				y, e := ray.Height(p, k, x)
				told[e]++
				if e != api.OK && y != (api.Rat{}) || !slices.Contains([]api.Errno{api.OK, api.ErrArg, api.ErrRange, api.ErrUpright, api.ErrNone}, e) {
					t.Error(n, k, x, y, e)
				}
			}
		}
	}
	for _, e := range []api.Errno{api.OK, api.ErrArg, api.ErrRange, api.ErrUpright, api.ErrNone} {
		if told[e] == 0 {
			t.Error("never told", e)
		}
	}
}

// TestHeightOfEdgesThatGoBack asks edges whose ends are the other way round, as layer 12 makes none.
func TestHeightOfEdgesThatGoBack(t *testing.T) {
	p := planned(t, line(0, 0, 4, 4))
	p.Edges[0].A, p.Edges[0].B = 1, 0
	for x, want := range map[string]api.Errno{"-1": api.ErrNone, "0": api.OK, "3/2": api.OK, "4": api.OK, "5": api.ErrNone} {
		y, e := ray.Height(p, 0, number(x))
		if e != want || e == api.OK && y != number(x) {
			t.Error(x, y, e)
		}
	}
}
