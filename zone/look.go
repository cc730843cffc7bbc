package zone

import (
	"cmp"
	"iter"
	"maps"
	"slices"

	"merestone/api"
	"merestone/quit"
	"merestone/seg"
)

// A stand is how a point of the plan stands to a segment: on which side of its line, and if it is on it.
type stand struct {
	side int
	on   bool
}

// A look is a segment that is held against a plan.
type look struct {
	api.Plan
	t     api.Seg
	stand func(i int) stand // of the point i; gives up where that may not be
}

// against is the look of a segment at a plan.
func against(p api.Plan, t api.Seg) look {
	quit.For(seg.Check(t))
	return look{Plan: p, t: t, stand: stands(p.Points, t)}
}

// stands tells how points stand to a segment. It keeps what it told: many edges end at one point.
func stands(l []api.Point, t api.Seg) func(i int) stand {
	told := map[int]stand{}
	return func(i int) stand {
		one, is := told[i]
		if !is {
			at := quit.In(l, i)
			one.side = quit.Must(seg.Side(t, at))
			one.on = one.side == 0 && quit.Must(seg.On(t, at))
			told[i] = one
		}
		return one
	}
}

// zone is what the segment meets, but for the objects.
func (l look) zone() api.Zone {
	z := api.Zone{Points: slices.Collect(l.points())}
	for k, m := range l.edges() {
		switch m {
		case along:
			z.Along = append(z.Along, k)
			fallthrough
		case touched:
			z.Edges = append(z.Edges, k)
		case cut:
			z.Cut = append(z.Cut, k)
			z.Edges = append(z.Edges, k)
		}
	}
	return z
}

// free tells if the segment meets nothing.
func (l look) free() bool {
	is := true
points:
	for range l.points() {
		is = false
		break points
	}
edges:
	for range l.edges() {
		is = false
		break edges
	}
	return is
}

// points goes over the points that are on the segment.
func (l look) points() iter.Seq[int] {
	return func(yield func(i int) bool) {
		for i := range l.Points {
			s, _ := quit.Caught(func() stand { return l.stand(i) })
			if s.on && !yield(i) {
				return
			}
		}
	}
}

// edges goes over the edges that the segment meets, and how.
func (l look) edges() iter.Seq2[int, meeting] {
	return func(yield func(k int, m meeting) bool) {
		for k := range l.Edges {
			if m := l.meeting(k); m != apart && !yield(k, m) {
				return
			}
		}
	}
}

// gathered is what those that are asked tell, rising, each once.
func gathered[A any, T cmp.Ordered](tell func(A) []T, asked ...A) []T {
	once := map[T]struct{}{}
	for _, a := range asked {
		for _, x := range tell(a) {
			once[x] = struct{}{}
		}
	}
	return slices.Sorted(maps.Keys(once))
}
