package locate_test

import (
	"math"
	"slices"
	"testing"

	"merestone/api"
	"merestone/dcel"
	"merestone/faces"
	"merestone/locate"
)

// wild is numbers of which few are places of lists of so many.
func wild(many, off int) []int {
	far := []int{-1, many, 1 << 32, math.MaxInt, math.MinInt}
	l := make([]int, many)
	for i := range l {
		l[i] = (i*7 + off) % many
		if (i+off)%3 == 0 {
			l[i] = far[(i+off)%len(far)]
		}
	}
	return l
}

// noPlans are such as layer 12 makes none of, and one that it makes.
func noPlans(t *testing.T) []api.Plan {
	fit := made(t, nest()...).Plan
	turned := slices.Clone(fit.Points)
	slices.Reverse(turned)
	ways := []api.Way{{}, {X: 1}, {Y: -3}, {X: 1 << 28}, {X: math.MinInt64, Y: math.MaxInt64}, {X: math.MinInt64, Y: math.MinInt64}, {X: math.MaxInt64, Y: math.MaxInt64 - 1}}
	var edges []api.Edge
	for i, a := range []int{0, 1, 0, 2, -1, 3, 5, math.MaxInt, math.MinInt} {
		for j, b := range []int{0, 2, -1, 1, 4, 5, 14, math.MinInt, math.MaxInt} {
			edges = append(edges, api.Edge{A: a, B: b, Way: ways[(i+j)%len(ways)], IDs: []int64{math.MaxInt64, math.MinInt64, math.MaxInt64}[:(i+j)%4]})
		}
	}
	great := []api.Point{spot("-79228162514264337593543950334/18446744073709551615 79228162514264337593543950333/18446744073709551614"), spot("0 0"), spot("1/18446744073709551615 -5"), spot("7 79228162514264337593543950333/18446744073709551611")}
	return []api.Plan{
		{}, {Points: turned, Edges: fit.Edges}, {Edges: fit.Edges}, {Points: fit.Points[:3], Edges: fit.Edges}, {Points: fit.Points}, {Points: fit.Points, Edges: edges}, {Edges: edges},
		{Points: wrongPoints(), Edges: edges}, {Points: wrongPoints(), Edges: fit.Edges}, {Points: make([]api.Point, 9), Edges: make([]api.Edge, 99)}, {Points: fit.Points, Edges: make([]api.Edge, 9)},
		{Points: slices.Repeat(fit.Points[:1], 9), Edges: fit.Edges}, {Points: fit.Points, Edges: edges[:1]}, {Points: great, Edges: edges}, {Points: great, Edges: fit.Edges}, fit,
	}
}

// noStructures are such as layer 15 makes none of, and one that it makes.
func noStructures(t *testing.T) []api.Structure {
	s := made(t, nest()...)
	var all []api.Structure
	for _, p := range noPlans(t) {
		for _, m := range []api.Mesh{
			{}, {From: s.Mesh.From}, {Cycle: s.Mesh.Cycle}, {From: wild(26, 0), Next: wild(26, 1), Cycle: wild(26, 2), Outside: slices.Repeat([]bool{true}, 26)}, {From: make([]int, 99), Cycle: make([]int, 99)}, dcel.Build(p), s.Mesh,
		} {
			for _, f := range []api.Faces{{}, {Border: wild(9, 0), Holes: [][]int{nil, wild(9, 1), {}}, Of: wild(9, 2)}, {Border: []int{-1}}, {Of: wild(99, 3)}, faces.Build(p, m), s.Faces} {
				all = append(all, api.Structure{Plan: p, Mesh: m, Faces: f})
			}
		}
	}
	return all
}

func TestWhereInNoStructuresToo(t *testing.T) {
	points := slices.Concat(wrongPoints(), []api.Point{spot("0 0"), spot("1 1"), spot("4 5"), spot("1/3 " + far), spot("79228162514264337593543950334/18446744073709551615 1"), spot("-1/18446744073709551533 1/18446744073709551521")})
	for n, s := range noStructures(t) {
		kept := copied(s)
		for _, p := range slices.Concat(points, s.Plan.Points[:min(len(s.Plan.Points), 9)]) {
			x, e := locate.Where(s, p)
			if e != api.OK && (e != api.ErrArg || x != api.Place{}) || e == api.OK && x.Kind == api.AtNone {
				t.Error(n, p, x, e)
			}
			if again, f := locate.Where(s, p); again != x || f != e {
				t.Error(n, p, "not the same again", x, e, again, f)
			}
			var wanted []told
			if e == api.OK {
				wanted = []told{{p, x}}
			}
			if got := all(s, p); !slices.Equal(got, wanted) {
				t.Error(n, p, got, wanted)
			}
		}
		if !same(s, kept) {
			t.Error(n, "what was handed in is changed")
		}
	}
}

func TestThroughAndFacesOfNoStructuresToo(t *testing.T) {
	went := map[api.Errno]int{}
	for n, s := range noStructures(t) {
		kept := copied(s)
		for kind := api.AtNone; kind <= api.AtFace+1; kind++ {
			for _, i := range slices.Concat(strange(len(s.Plan.Edges)), strange(len(s.Plan.Points)), strange(len(s.Faces.Border)), []int{0, 1, 2, 7, 8}) {
				ids, e := locate.Through(s, at(kind, i))
				if e != api.OK && (e != api.ErrRange || ids != nil) || !slices.IsSorted(ids) || len(slices.Compact(slices.Clone(ids))) != len(ids) {
					t.Error(n, kind, i, ids, e)
				}
				round, f := locate.Faces(s, at(kind, i))
				if f != api.OK && (f != api.ErrRange || round != nil) || !slices.IsSorted(round) || len(slices.Compact(slices.Clone(round))) != len(round) {
					t.Error(n, kind, i, round, f)
				}
				if e != api.OK && f == api.OK { // a place that there is not has no faces round it
					t.Error(n, kind, i, e, round)
				}
				went[e]++
				went[f]++
			}
		}
		if !same(s, kept) {
			t.Error(n, "what was handed in is changed")
		}
	}
	if len(went) != 2 {
		t.Error("not all are there", went)
	}
}
