package check_test

import (
	"math"
	"slices"
	"testing"

	"merestone/api"
	"merestone/check"
)

// wild is numbers of which few are places of lists of so many.
func wild(many, off int) []int {
	far := []int{-1, many, 1 << 32, math.MaxInt, math.MinInt}
	l := make([]int, many)
	for i := range l {
		l[i] = (i*7 + off) % many
		if (i+off)%3 == 0 {
			l[i] = far[(i+off)%len(far)]
		}
	}
	return l
}

// noPlans are such as layer 12 makes none of, and one that it makes.
func noPlans(t *testing.T) []api.Plan {
	fit := house(t).Plan
	turned := slices.Clone(fit.Points)
	slices.Reverse(turned)
	ways := []api.Way{{}, {X: 1}, {Y: -3}, {X: 1 << 28}, {X: math.MinInt64, Y: math.MaxInt64}, {X: math.MinInt64, Y: math.MinInt64}, {X: math.MaxInt64, Y: math.MaxInt64 - 1}}
	var edges []api.Edge
	for i, a := range []int{0, 1, 0, 2, -1, 3, 5, math.MaxInt, math.MinInt} {
		for j, b := range []int{0, 2, -1, 1, 4, 5, math.MinInt, math.MaxInt} {
			edges = append(edges, api.Edge{A: a, B: b, Way: ways[(i+j)%len(ways)], IDs: []int64{math.MinInt64, math.MaxInt64}[:(i+j)%3]})
		}
	}
	great := []api.Point{spot("-79228162514264337593543950334/18446744073709551615 79228162514264337593543950333/18446744073709551614"), spot("0 0"), spot("1/18446744073709551615 -5"), spot("7 79228162514264337593543950333/18446744073709551611")}
	return []api.Plan{
		{}, {Points: turned, Edges: fit.Edges}, {Edges: fit.Edges}, {Points: fit.Points[:3], Edges: fit.Edges}, {Points: fit.Points}, {Points: fit.Points, Edges: edges}, {Edges: edges},
		{Points: wrongPoints(), Edges: edges}, {Points: wrongPoints(), Edges: fit.Edges}, {Points: make([]api.Point, 9), Edges: make([]api.Edge, 99)}, {Points: fit.Points, Edges: make([]api.Edge, 9)},
		{Points: fit.Points, Edges: slices.Concat(fit.Edges, fit.Edges)}, {Points: fit.Points, Edges: edges[:1]}, {Points: great, Edges: edges}, {Points: great, Edges: fit.Edges}, fit,
	}
}

// noMeshes are such as layer 13 makes none of, and one that it makes.
func noMeshes(t *testing.T) []api.Mesh {
	fit := house(t).Mesh
	all := slices.Repeat([]bool{true}, 34)
	return []api.Mesh{
		{}, {From: fit.From}, {Cycle: fit.Cycle}, {Outside: fit.Outside}, {From: fit.From, Next: fit.Next, Cycle: fit.Cycle, Outside: all}, {From: fit.Cycle, Next: fit.From, Cycle: fit.Next, Outside: all},
		{From: wild(34, 0), Next: wild(34, 1), Cycle: wild(34, 2), Outside: all}, {From: wild(34, 3), Next: wild(99, 4), Cycle: wild(9, 5), Outside: fit.Outside}, fit,
	}
}

func TestOfNoStructuresToo(t *testing.T) {
	fit := house(t).Faces
	went := map[api.FlawKind]int{}
	for n, p := range noPlans(t) {
		for o, m := range append(noMeshes(t), rebuilt(p).Mesh) {
			for q, f := range []api.Faces{{}, fit, {Border: wild(9, 0), Holes: [][]int{nil, wild(9, 1), {}}, Of: wild(9, 2)}, {Border: []int{-1}}, {Holes: make([][]int, 99)}, rebuilt(p).Faces} {
				s := api.Structure{Plan: p, Mesh: m, Faces: f}
				kept := copied(s)
				k := check.Flaw(s)
				if k != flawOf(s) || k != check.Flaw(s) || !same(s, kept) {
					t.Error(n, o, q, k, flawOf(s))
				}
				a, b, c, d, parts := check.Counts(s)
				if is := k == api.FlawNone; check.Euler(s) != is || is != (a+b+c+d+parts > 0) {
					t.Error(n, o, q, k, a, b, c, d, parts)
				}
				went[k]++
			}
		}
	}
	if len(went) != 6 {
		t.Error("not all are there", went)
	}
}
