package zone_test

import (
	"math"
	"slices"
	"testing"

	"merestone/api"
	"merestone/zone"
)

// noPlans are such as layer 12 makes none of, and one that it makes.
func noPlans(t *testing.T) []api.Plan {
	fit := made(t, nest()...).Plan
	turned := slices.Clone(fit.Points)
	slices.Reverse(turned)
	ways := []api.Way{{}, {X: 1}, {Y: -3}, {X: 1 << 28}, {X: math.MinInt64, Y: math.MaxInt64}, {X: math.MinInt64, Y: math.MinInt64}, {X: math.MaxInt64, Y: math.MaxInt64 - 1}}
	var edges []api.Edge
	for i, a := range []int{0, 1, 0, 2, -1, 3, 5, math.MaxInt, math.MinInt} {
		for j, b := range []int{0, 2, -1, 1, 4, 5, 14, math.MinInt, math.MaxInt} {
			edges = append(edges, api.Edge{A: a, B: b, Way: ways[(i+j)%len(ways)], IDs: []int64{math.MaxInt64, math.MinInt64, math.MaxInt64}[:(i+j)%4]})
		}
	}
	great := []api.Point{spot("-79228162514264337593543950334/18446744073709551615 79228162514264337593543950333/18446744073709551614"), spot("0 0"), spot("1/18446744073709551615 -5"), spot("7 79228162514264337593543950333/18446744073709551611")}
	return []api.Plan{
		{}, {Points: turned, Edges: fit.Edges}, {Edges: fit.Edges}, {Points: fit.Points[:3], Edges: fit.Edges}, {Points: fit.Points}, {Points: fit.Points, Edges: edges}, {Edges: edges},
		{Points: wrongPoints(), Edges: edges}, {Points: wrongPoints(), Edges: fit.Edges}, {Points: make([]api.Point, 9), Edges: make([]api.Edge, 99)}, {Points: fit.Points, Edges: make([]api.Edge, 9)},
		{Points: slices.Repeat(fit.Points[:1], 9), Edges: fit.Edges}, {Points: fit.Points, Edges: edges[:1]}, {Points: great, Edges: edges}, {Points: great, Edges: fit.Edges}, {Points: []api.Point{spot(far + " -" + far), spot("-" + far + " " + far)}, Edges: edges}, fit,
	}
}

func TestOfNoPlansToo(t *testing.T) {
	went := map[bool]int{}
	for n, p := range noPlans(t) {
		s := api.Structure{Plan: p}
		kept := copied(s)
		for _, one := range append(wrongSegs(), to(0, 0, 12, 0), to(-1, 6, 13, 6), to(2, 2, 2, 10), to(-most, -most, most, most), to(-most, most, most, -most), to(0, 0, 0, 1), to(5, 5, 6, 6)) {
			z, e := zone.Of(s, one)
			if e != api.OK && (e != api.ErrArg || !noZone(z)) {
				t.Error(n, one, z, e)
			}
			if again, f := zone.Of(s, one); !sameZone(again, z) || f != e {
				t.Error(n, one, "not the same again", z, e, again, f)
			}
			if e == api.OK && !agree(s, one, z) {
				t.Error(n, one, z, "not all calls tell this")
			}
			for _, k := range strange(len(p.Edges)) {
				if zone.Meets(p, k, one) {
					t.Error(n, k, one)
				}
			}
			went[len(z.Edges) > 0]++
		}
		if !same(s, kept) {
			t.Error(n, "what was handed in is changed")
		}
	}
	if len(went) != 2 {
		t.Error("not all are there", went)
	}
}

// TestEdgesWithoutEndsAreNotThere has a plan of which some edges have ends that there are not, or that may not be.
func TestEdgesWithoutEndsAreNotThere(t *testing.T) {
	p := copied(made(t, triangle()...)).Plan
	p.Points = append(p.Points, wrongPoints()[0])
	for _, i := range []int{-1, 3, 4, math.MaxInt, math.MinInt} {
		for _, e := range []api.Edge{{A: 0, B: i}, {A: i, B: 0}, {A: i, B: i}} {
			e.Way, e.IDs = api.Way{X: 1}, []int64{7}
			s := api.Structure{Plan: api.Plan{Points: p.Points, Edges: append([]api.Edge{e}, p.Edges...)}}
			z, f := zone.Of(s, to(0, 0, 2, 0))
			if !slices.Equal(z.Points, []int{0}) || !slices.Equal(z.Edges, []int{1, 2}) || !slices.Equal(z.IDs, []int64{1, 3}) || f != api.OK || !agree(s, to(0, 0, 2, 0), z) {
				t.Error(i, e, z, f)
			}
		}
	}
}
