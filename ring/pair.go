package ring

import (
	"iter"

	"merestone/api"
	"merestone/cross"
)

// A pair is two edges.
type pair [2]api.Seg

// neighbours goes over the pairs of edges that follow one another.
func (c corners) neighbours() iter.Seq[pair] {
	return func(yield func(pair) bool) {
		for i := range c {
			if !yield(pair{c.edge(i), c.edge(i + 1)}) {
				return
			}
		}
	}
}

// strangers goes over the other pairs, each once. The last edge is followed by that from the first corner.
func (c corners) strangers() iter.Seq[pair] {
	return func(yield func(pair) bool) {
		for i := range c {
			for j := i + 2; j < min(len(c), len(c)+i-1); j++ {
				if !yield(pair{c.edge(i), c.edge(j)}) {
					return
				}
			}
		}
	}
}

// with goes over the pairs of an edge of these and one of the others.
func (c corners) with(others corners) iter.Seq[pair] {
	return func(yield func(pair) bool) {
		for s := range c.edges() {
			for t := range others.edges() {
				if !yield(pair{s, t}) {
					return
				}
			}
		}
	}
}

// near tells if both share an X and a Y. Of most pairs it tells much faster than anything else that they do not meet.
func (p pair) near() bool {
	s, t := p[0], p[1]
	return overlap(s.A.X, s.B.X, t.A.X, t.B.X) && overlap(s.A.Y, s.B.Y, t.A.Y, t.B.Y)
}

// overlap tells if what is from a to b has something of what is from c to d.
func overlap(a, b, c, d int64) bool {
	return max(a, b) >= min(c, d) && max(c, d) >= min(a, b)
}

// meet tells in what both meet; no edge's ends are the same.
func (p pair) meet() api.MeetKind {
	if !p.near() {
		return api.MeetNone
	}
	m, _ := cross.Meet(p[0], p[1])
	return m.Kind
}

// clash tells if both meet in more than a point, or cross; no edge's ends are the same.
func (p pair) clash() bool {
	if !p.near() {
		return false
	}
	crosses, _ := cross.Crosses(p[0], p[1])
	return crosses || p.meet() == api.MeetPiece
}

// some tells if one of those that are gone over is such.
func some[T any](all iter.Seq[T], such func(T) bool) bool {
	for one := range all {
		if such(one) {
			return true
		}
	}
	return false
}
