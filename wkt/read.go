package wkt

import (
	"merestone/api"
	"merestone/point"
	"merestone/quit"
	"merestone/seg"
)

// A reader takes a shape from its text; what is no shape's is given up.
type reader struct {
	text
}

// shape takes the whole text: its first word tells what comes behind.
func (r *reader) shape() api.Shape {
	kinds := map[string]func() api.Shape{segment: r.segment, polygon: r.polygon}
	word := r.take(segment, polygon)
	s := kinds[word]()
	r.end()
	return s
}

// segment takes what stands behind that word.
func (r *reader) segment() api.Shape {
	r.take(open)
	s, e := seg.Parse(r.ahead(shut))
	if e != api.OK {
		quit.For(api.ErrWkt)
	}
	r.take(shut)
	return api.Shape{IsSeg: true, Seg: s}
}

// polygon takes what stands behind that word. How many corners there are in all is not told here.
func (r *reader) polygon() api.Shape {
	return api.Shape{Rings: inBracket(r, r.ring)}
}

// ring takes a ring: its last corner is the first one once more.
func (r *reader) ring() []api.Node {
	l := inBracket(r, r.node)
	last := len(l) - 1
	if last < fewest || l[last] != l[0] {
		quit.For(api.ErrWkt)
	}
	return l[:last]
}

// node takes a node.
func (r *reader) node() api.Node {
	p, e := point.Parse(r.ahead(comma + shut))
	n, whole := point.Grid(p)
	if e != api.OK || !whole {
		quit.For(api.ErrWkt)
	}
	return n
}

// inBracket takes a bracket with one or more, parted by commas.
func inBracket[T any](r *reader, one func() T) []T {
	r.take(open)
	l := []T{one()}
	for r.take(comma, shut) == comma {
		l = append(l, one())
	}
	return l
}
