package locate

import (
	"cmp"
	"maps"
	"slices"

	"merestone/api"
	"merestone/quit"
)

// idsAtPoint is the IDs of the edges that end at a point.
func (s structure) idsAtPoint(i int) []int64 {
	quit.In(s.Plan.Points, i)
	var l []int64
	for _, e := range s.Plan.Edges {
		if e.A == i || e.B == i {
			l = append(l, e.IDs...)
		}
	}
	return l
}

// idsOfEdge is the IDs of an edge.
func (s structure) idsOfEdge(k int) []int64 {
	return quit.In(s.Plan.Edges, k).IDs
}

// idsInFace is none: no edge goes through a face.
func (s structure) idsInFace(i int) []int64 {
	quit.In(s.Faces.Border, i)
	return nil
}

// facesAtPoint is the faces of the half edges that leave a point.
func (s structure) facesAtPoint(i int) []int {
	quit.In(s.Plan.Points, i)
	var l []int
	for h, from := range s.Mesh.From {
		if from == i {
			l = append(l, s.face(h))
		}
	}
	return l
}

// facesOfEdge is the faces of both half edges of an edge.
func (s structure) facesOfEdge(k int) []int {
	quit.In(s.Plan.Edges, k)
	return []int{s.face(2 * k), s.face(2*k + 1)}
}

// faceItself is the face alone.
func (s structure) faceItself(i int) []int {
	quit.In(s.Faces.Border, i)
	return []int{i}
}

// asked is what places of its kind tell, rising, each once.
func asked[T cmp.Ordered](x api.Place, tells map[api.PlaceKind]func(at int) []T) ([]T, api.Errno) {
	return quit.Caught(func() []T {
		tell, is := tells[x.Kind]
		if !is {
			quit.For(api.ErrRange)
		}
		return gathered(tell(x.At))
	})
}

// gathered is what stands in a list, rising, each once.
func gathered[T cmp.Ordered](l []T) []T {
	once := map[T]struct{}{}
	for _, x := range l {
		once[x] = struct{}{}
	}
	return slices.Sorted(maps.Keys(once))
}
