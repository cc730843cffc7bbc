package check

import (
	"cmp"
	"iter"
	"slices"

	"merestone/api"
	"merestone/dcel"
	"merestone/faces"
	"merestone/point"
	"merestone/quit"
)

// A structure is one under way: nothing that stands in it is known to be right ahead of the look at it.
type structure struct {
	api.Structure
}

// A look is for one kind of flaw.
type look struct {
	kind  api.FlawKind
	finds func() bool
}

// flaw is the first that it has. Each look counts on it that those ahead found nothing.
func (s structure) flaw() api.FlawKind {
	looks := []look{
		{kind: api.FlawPoint, finds: s.flawOfPoints},
		{kind: api.FlawEdge, finds: s.flawOfEdges},
		{kind: api.FlawRound, finds: s.flawRound},
		{kind: api.FlawMesh, finds: s.flawOfMesh},
		{kind: api.FlawFaces, finds: s.flawOfFaces},
	}
	return first(looks, look.has).kind
}

// has tells if there is such a flaw: what can't be worked out is one too.
func (l look) has() bool {
	found, e := quit.Caught(l.finds)
	return found || e != api.OK
}

// first is the first one that is such; zero, if none is.
func first[T any](l []T, is func(T) bool) (found T) {
	for _, x := range l {
		if is(x) {
			return x
		}
	}
	return found
}

// flawOfPoints is one that may not be, or not behind the one ahead.
func (s structure) flawOfPoints() bool {
	for _, p := range s.Plan.Points {
		quit.For(point.Right(p))
	}
	return !follow(s.Plan.Points, func(a, b api.Point) bool { return quit.Must(point.Cmp(a, b)) < 0 })
}

// flawOfEdges is one that may not be, or not behind the one ahead.
func (s structure) flawOfEdges() bool {
	for _, e := range s.Plan.Edges {
		s.edge(e).check()
	}
	return !follow(s.Plan.Edges, func(a, b api.Edge) bool { return cmp.Or(cmp.Compare(a.A, b.A), cmp.Compare(a.B, b.B)) < 0 })
}

// A leave is a way from a point.
type leave struct {
	at  int
	way api.Way
}

// flawRound is a way in which two edges leave one point, or a point that no edge leaves. Ways have no common divisor
// here: those that are one are the same.
func (s structure) flawRound() bool {
	leaves, left := map[leave]struct{}{}, map[int]struct{}{}
	for _, e := range s.Plan.Edges {
		back := api.Way{X: -e.Way.X, Y: -e.Way.Y}
		for _, l := range [...]leave{{at: e.A, way: e.Way}, {at: e.B, way: back}} {
			leaves[l], left[l.at] = struct{}{}, struct{}{}
		}
	}
	return len(leaves) != 2*len(s.Plan.Edges) || len(left) != len(s.Plan.Points)
}

// flawOfMesh is a mesh that is not that of the plan.
func (s structure) flawOfMesh() bool {
	own, m := s.Mesh, dcel.Build(s.Plan)
	return !same([2][]int{own.From, m.From}, [2][]int{own.Next, m.Next}, [2][]int{own.Cycle, m.Cycle}) ||
		!same([2][]bool{own.Outside, m.Outside})
}

// flawOfFaces is faces that are not those of plan and mesh.
func (s structure) flawOfFaces() bool {
	own, f := s.Faces, faces.Build(s.Plan, s.Mesh)
	return !same([2][]int{own.Border, f.Border}, [2][]int{own.Of, f.Of}) || !slices.EqualFunc(own.Holes, f.Holes, slices.Equal)
}

// same tells if in each pair both lists are the same.
func same[T comparable](pairs ...[2][]T) bool {
	return !slices.ContainsFunc(pairs, func(p [2][]T) bool { return !slices.Equal(p[0], p[1]) })
}

// follow tells if all that follow one another may.
func follow[T any](l []T, may func(a, b T) bool) bool {
	all := true
over:
	for a, b := range inTurn(l) {
		all = may(a, b)
		if !all {
			break over
		}
	}
	return all
}

// inTurn goes over each one and the one behind it.
func inTurn[T any](l []T) iter.Seq2[T, T] {
	return func(yield func(a, b T) bool) {
		for i := 1; i < len(l); i++ {
			if !yield(l[i-1], l[i]) {
				return
			}
		}
	}
}
