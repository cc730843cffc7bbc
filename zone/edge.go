package zone

import (
	"merestone/api"
	"merestone/point"
	"merestone/quit"
	"merestone/ratio"
)

// A meeting is how a segment meets an edge.
type meeting int

const (
	apart   meeting = iota // not at all
	touched                // neither of those below
	along                  // both ends of the edge are on the segment
	cut                    // they cross one another between the ends of both
)

// An edge is one under way.
type edge struct {
	api.Edge
	from, to api.Point // of A and B
	both     [2]stand
}

// meeting is how the segment meets the edge k: not at all, if that is not there, or its ends are not.
func (l look) meeting(k int) meeting {
	m, _ := quit.Caught(func() meeting { return l.edge(k).meets(l.t) })
	return m
}

// edge is the edge k.
func (l look) edge(k int) edge {
	e := quit.In(l.Edges, k)
	return edge{Edge: e, from: quit.In(l.Points, e.A), to: quit.In(l.Points, e.B), both: [2]stand{l.stand(e.A), l.stand(e.B)}}
}

// meets is how the segment meets the edge.
func (e edge) meets(t api.Seg) meeting {
	a, b := e.both[0], e.both[1]
	switch {
	case a.on && b.on:
		return along
	case a.on || b.on:
		return touched
	case a.side == 0 && b.side == 0:
		return e.onOneLine(t)
	case a.side*b.side >= 0: // who is on the segment's line alone is not on it
		return apart
	}
	return e.across(t)
}

// onOneLine is how a segment meets the edge that is on its line, with both ends off it.
func (e edge) onOneLine(t api.Seg) meeting {
	a := quit.Must(point.Of(t.A))
	if quit.Must(point.Cmp(e.from, a)) == quit.Must(point.Cmp(e.to, a)) {
		return apart
	}
	return touched
}

// across is how a segment meets the edge that goes from one side of its line to the other one.
func (e edge) across(t api.Seg) meeting {
	switch signs := [2]int{e.side(t.A), e.side(t.B)}; signs[0] * signs[1] {
	case -1:
		return cut
	case 0:
		return touched
	}
	return apart
}

// side tells on which side of the edge's line a node is, as seen on the way from A.
func (e edge) side(n api.Node) int {
	p := quit.Must(point.Of(n))
	return quit.Must(ratio.Cmp(times(less(p.Y, e.from.Y), e.Way.X), times(less(p.X, e.from.X), e.Way.Y)))
}

// less is a without b.
func less(a, b api.Rat) api.Rat {
	return quit.Must(ratio.Sub(a, b))
}

// times is x, n times.
func times(x api.Rat, n int64) api.Rat {
	return quit.Must(ratio.Mul(x, ratio.Of(n)))
}
