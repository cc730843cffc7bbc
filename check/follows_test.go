package check_test

import (
	"math"
	"slices"
	"testing"

	"merestone/api"
	"merestone/check"
)

func TestTheStructureOfCurvesHasNoFlaw(t *testing.T) {
	var many, cut int
	lists(270, 9, func(l []api.Curve) {
		s := made(t, l...)
		if k := check.Flaw(s); k != api.FlawNone || flawOf(s) != k || !check.Euler(s) {
			t.Fatal(l, k, flawOf(s))
		}
		a, b, c, d, f := check.Counts(s)
		if a != len(s.Plan.Points) || b != len(s.Plan.Edges) || c != len(s.Mesh.Outside) || d != len(s.Faces.Border) || f != parts(s.Plan) || a-b+d-f != 1 {
			t.Fatal(l, a, b, c, d, f)
		}
		many = max(many, f)
		cut = max(cut, b-len(l))
	})
	if many < 4 || cut < 9 {
		t.Error("not all are there", many, cut)
	}
}

// put does something with each of these where another one stood.
func put[T comparable](at *T, do func(), l ...T) {
	kept := *at
	for _, x := range l {
		if x != kept {
			*at = x
			do()
		}
	}
	*at = kept
}

// places puts others for each number of a list of places.
func places(l []int, do func()) {
	for i, n := range l {
		put(&l[i], do, n+1, n-1, 0, -1, len(l), l[(i+1)%len(l)], math.MaxInt, math.MinInt)
	}
}

// plans puts others for each number of a plan, and tells of which kind it is.
func plans(p api.Plan, do func(what string)) {
	for i := range p.Points {
		at := &p.Points[i]
		for _, x := range []*api.Int{&at.X.N, &at.X.D, &at.Y.N, &at.Y.D} {
			put(&x.Neg, func() { do("point") }, !x.Neg)
			for w, n := range x.Mag {
				put(&x.Mag[w], func() { do("point") }, n+1, n-1, 2*n, 0, 1, 1<<31, 1<<32, math.MaxUint64)
			}
		}
	}
	for k := range p.Edges {
		e := &p.Edges[k]
		for _, at := range []*int{&e.A, &e.B} {
			put(at, func() { do("end") }, *at+1, *at-1, 0, -1, len(p.Points)-1, len(p.Points), math.MaxInt, math.MinInt)
		}
		for _, at := range []*int64{&e.Way.X, &e.Way.Y} {
			put(at, func() { do("way") }, *at+1, *at-1, -*at, 2**at, 0, 1, 1<<27, 1<<27+1, math.MaxInt64, math.MinInt64)
		}
		for i, id := range e.IDs {
			put(&e.IDs[i], func() { do("ID") }, id+1, id-1, -id, 0, 1, 1<<31-1, 1<<31, math.MaxInt64, math.MinInt64)
		}
	}
}

// others puts others for each number of a structure, and tells of which kind it is.
func others(s api.Structure, do func(what string)) {
	plans(s.Plan, do)
	for _, l := range [][]int{s.Mesh.From, s.Mesh.Next, s.Mesh.Cycle} {
		places(l, func() { do("mesh") })
	}
	for i, is := range s.Mesh.Outside {
		put(&s.Mesh.Outside[i], func() { do("mesh") }, !is)
	}
	for _, l := range append([][]int{s.Faces.Border, s.Faces.Of}, s.Faces.Holes...) {
		places(l, func() { do("faces") })
	}
}

func TestAnotherNumberIsAFlaw(t *testing.T) {
	went := map[string]int{}
	may := map[string][]api.FlawKind{
		"end": {api.FlawEdge, api.FlawRound, api.FlawMesh}, "way": {api.FlawEdge}, "ID": {api.FlawEdge, api.FlawNone}, "mesh": {api.FlawMesh}, "faces": {api.FlawFaces},
		"point": {api.FlawPoint, api.FlawEdge, api.FlawNone, api.FlawFaces}, // an end of a segment may be elsewhere on its line, above other edges too
	}
	lists(14, 7, func(l []api.Curve) {
		s := made(t, l...)
		wanted := copied(s)
		others(s, func(what string) {
			k := check.Flaw(s)
			if want := flawOf(s); k != want || !slices.Contains(may[what], k) {
				t.Fatal(what, k, want, s)
			}
			if a, b, c, d, f := check.Counts(s); k != api.FlawNone && (a != 0 || b != 0 || c != 0 || d != 0 || f != 0 || check.Euler(s)) {
				t.Fatal(what, k, a, b, c, d, f, s)
			}
			went[what+" "+check.Tell(k)]++
		})
		if !same(s, wanted) || check.Flaw(s) != api.FlawNone {
			t.Fatal(l, s)
		}
	})
	for _, what := range []string{"end edge", "end round", "way edge", "ID edge", "ID none", "mesh mesh", "faces faces", "point point", "point edge"} {
		if went[what] < 3 {
			t.Error("not all are there", what, went)
		}
	}
}

func TestAnotherNumberOfThePlanIsAFlawOfItAlone(t *testing.T) {
	lists(12, 5, func(l []api.Curve) {
		s := made(t, l...)
		plans(s.Plan, func(what string) { // mesh and faces are those of the changed plan, so that nothing else is wrong
			changed := rebuilt(s.Plan)
			if k := check.Flaw(changed); k != flawOf(changed) || k >= api.FlawMesh {
				t.Fatal(what, k, flawOf(changed), changed)
			}
		})
	})
}

func TestFlawHangsNeitherOnOrderNorOnEnds(t *testing.T) {
	lists(90, 7, func(l []api.Curve) {
		s := made(t, l...)
		for i, c := range l {
			l[i].Seg = api.Seg{A: c.Seg.B, B: c.Seg.A}
		}
		slices.Reverse(l)
		if got := made(t, l...); !same(got, s) || check.Flaw(got) != api.FlawNone {
			t.Fatal(l, got, s)
		}
	})
}
