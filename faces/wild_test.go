package faces_test

import (
	"math"
	"slices"
	"testing"

	"merestone/api"
	"merestone/faces"
)

// wild is numbers of which few are places of lists of so many.
func wild(many, off int) []int {
	far := []int{-1, many, 1 << 32, math.MaxInt, math.MinInt}
	l := make([]int, many)
	for i := range l {
		l[i] = (i*7 + off) % many
		if (i+off)%3 == 0 {
			l[i] = far[(i+off)%len(far)]
		}
	}
	return l
}

// noPlans are such as layer 12 makes none of.
func noPlans(t *testing.T) []api.Plan {
	fit, _ := planned(t, slices.Concat(square(1, 0, 0, 9), square(2, 2, 2, 4), square(3, 3, 3, 9))...)
	turned := slices.Clone(fit.Points)
	slices.Reverse(turned)
	ways := []api.Way{{}, {X: 1}, {Y: -3}, {X: 1 << 28}, {X: math.MinInt64, Y: math.MaxInt64}, {X: math.MinInt64, Y: math.MinInt64}, {X: math.MaxInt64, Y: math.MaxInt64 - 1}}
	var edges []api.Edge
	for i, a := range []int{0, 1, 0, 2, -1, 3, 5, math.MaxInt, math.MinInt} {
		for j, b := range []int{0, 2, -1, 1, 4, 5, math.MinInt, math.MaxInt} {
			edges = append(edges, api.Edge{A: a, B: b, Way: ways[(i+j)%len(ways)]})
		}
	}
	great := []api.Point{spot("-79228162514264337593543950334/18446744073709551615 79228162514264337593543950333/18446744073709551614"), spot("0 0"), spot("1/18446744073709551615 -5"), spot("7 79228162514264337593543950333/18446744073709551611")}
	return []api.Plan{
		{Points: turned, Edges: fit.Edges}, {Edges: fit.Edges}, {Points: fit.Points[:3], Edges: fit.Edges}, {Points: fit.Points}, {Points: fit.Points, Edges: edges}, {Edges: edges},
		{Points: wrongPoints(), Edges: edges}, {Points: wrongPoints(), Edges: fit.Edges}, {Points: make([]api.Point, 9), Edges: make([]api.Edge, 99)},
		{Points: fit.Points, Edges: slices.Concat(fit.Edges, fit.Edges)}, {Points: fit.Points, Edges: edges[:1]}, {Points: great, Edges: edges}, fit,
	}
}

// noMeshes are such as layer 13 makes none of.
func noMeshes(t *testing.T) []api.Mesh {
	_, fit := planned(t, slices.Concat(square(1, 0, 0, 9), square(2, 2, 2, 4))...)
	all := slices.Repeat([]bool{true}, 20)
	return []api.Mesh{
		{}, {From: fit.From}, {Cycle: fit.Cycle}, {Outside: fit.Outside}, {From: fit.From, Cycle: fit.Cycle}, {From: fit.From, Outside: all}, {Cycle: fit.Cycle, Outside: all},
		{From: fit.From, Next: fit.Next, Cycle: fit.Cycle, Outside: all}, {From: fit.From, Cycle: fit.From, Outside: all}, {From: fit.Cycle, Cycle: fit.From, Outside: all},
		{From: fit.From[:3], Cycle: fit.Cycle, Outside: fit.Outside}, {From: fit.From, Cycle: fit.Cycle[:3], Outside: all}, {From: fit.From, Cycle: fit.Cycle, Outside: fit.Outside[:1]},
		{From: wild(20, 0), Next: wild(20, 1), Cycle: wild(20, 2), Outside: all}, {From: wild(20, 3), Cycle: wild(20, 4), Outside: fit.Outside}, {From: fit.From, Cycle: wild(20, 5), Outside: all}, fit,
	}
}

func TestUnderOfNoPlansToo(t *testing.T) {
	points := slices.Concat(wrongPoints(), []api.Point{spot("0 0"), spot("4 5"), spot("1/3 79228162514264337593543950335"), spot("79228162514264337593543950334/18446744073709551615 1")})
	for n, p := range noPlans(t) {
		for _, at := range slices.Concat(points, p.Points) {
			k, is, e := faces.Under(p, at)
			if e != api.OK && e != api.ErrArg || e != api.OK && is || !is && k != 0 || k < 0 || is && k >= len(p.Edges) {
				t.Error(n, at, k, is, e)
			}
		}
	}
}

func TestBuildOfNoPlansAndNoMeshesToo(t *testing.T) {
	for n, p := range noPlans(t) {
		for o, m := range noMeshes(t) {
			f := faces.Build(p, m)
			cycles := slices.Concat(append(slices.Clone(f.Holes), f.Border[1:])...)
			slices.Sort(cycles)
			if len(cycles) != len(m.Outside) || len(slices.Compact(cycles)) != len(m.Outside) || len(f.Of) != len(m.Outside) || len(f.Holes) != len(f.Border) || f.Border[0] != -1 {
				t.Error(n, o, f) // each cycle is there once still
			}
			if !same(faces.Build(p, m), f) {
				t.Error(n, o, "not the same again")
			}
			for i := range f.Border {
				faces.Beside(m, f, i)
			}
		}
	}
}

func TestCyclesThatAreUnderOneAnother(t *testing.T) {
	p, _ := planned(t, curve(1, -2, 0, 4, 0), curve(1, -1, 1, 3, 1), curve(1, 0, 2, 2, 2)) // edges 0 to 2, which begin at the points 0 to 2
	for _, c := range []struct {
		what        string
		from, cycle []int
	}{
		{"the second one under the first, and that under the second", []int{2, 2, 1, 1}, []int{0, 0, 1, 1}},
		{"itself under the first", []int{1, 1, 0, 0}, []int{0, 0, 1, 1}},
		{"and a third one over these", []int{2, 2, 1, 1, 2, 2}, []int{0, 0, 1, 1, 2, 2}},
		{"one that there is not under the second", []int{2, 2, 1, 1}, []int{9, 9, 1, 1}},
		{"one that no list can have", []int{2, 2, 1, 1}, []int{math.MinInt, math.MaxInt, 1, 0}},
	} {
		m := api.Mesh{From: c.from, Cycle: c.cycle, Outside: []bool{true, true, true}}
		if got := faces.Build(p, m); !same(got, api.Faces{Border: []int{-1}, Holes: [][]int{{0, 1, 2}}, Of: []int{0, 0, 0}}) {
			t.Error(c.what, got)
		}
	}
}

func TestFaceHalvesBesideOfNoFacesToo(t *testing.T) {
	m := api.Mesh{From: []int{0, 1, 0}, Cycle: []int{0, 3, -1, 1, math.MaxInt, math.MinInt, 2}}
	f := api.Faces{Border: []int{-1, 5}, Of: []int{1, 9, -1}}
	for h, c := range []struct {
		want int
		e    api.Errno
	}{{1, api.OK}, {0, api.ErrRange}, {0, api.ErrRange}, {9, api.OK}, {0, api.ErrRange}, {0, api.ErrRange}, {-1, api.OK}, {0, api.ErrRange}} {
		if face, e := faces.Face(m, f, h); face != c.want || e != c.e {
			t.Error(h, face, e)
		}
	}
	for _, i := range append(strange(2), 9, 0, 1) {
		var wanted []int
		if i == 1 {
			wanted = []int{0}
		}
		if got := slices.Collect(faces.Halves(m, f, i)); !slices.Equal(got, wanted) {
			t.Error(i, got)
		}
		if got := faces.Beside(m, f, i); len(got) > 0 {
			t.Error(i, got)
		}
	}
	if got := faces.Beside(api.Mesh{Cycle: []int{0, 1}}, api.Faces{Border: []int{-1, 0, 1}, Of: []int{1, 2}}, 2); len(got) > 0 { // its half edge has no twin
		t.Error(got)
	}
	for n, m := range noMeshes(t) {
		for _, f := range []api.Faces{{}, {Border: wild(9, 0), Of: wild(9, 1)}, {Border: []int{-1}}, {Of: []int{0, 1}}, {Border: make([]int, 4), Of: wild(4, 2), Holes: [][]int{wild(4, 0)}}} {
			for _, i := range append(strange(len(m.Cycle)), 0, 1, 2, 3) {
				if face, e := faces.Face(m, f, i); e != api.OK && (face != 0 || e != api.ErrRange) {
					t.Error(n, i, face, e)
				}
				if got := faces.Beside(m, f, i); slices.Contains(got, i) || !slices.IsSorted(got) {
					t.Error(n, i, got)
				}
			}
		}
	}
}
