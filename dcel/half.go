package dcel

import "merestone/api"

// A half is a half edge: its edge, and whether it goes back, from B to A.
type half struct {
	api.Edge
	back bool
}

// halfOf is the half edge h, which the plan must have.
func halfOf(p api.Plan, h int) half {
	return half{Edge: p.Edges[h/2], back: h%2 == 1}
}

// from is the point at which it begins.
func (h half) from() int {
	if h.back {
		return h.B
	}
	return h.A
}

// way is that from where it begins.
func (h half) way() api.Way {
	if h.back {
		return api.Way{X: -h.Way.X, Y: -h.Way.Y}
	}
	return h.Way
}

// twin is the other half edge of its edge.
func twin(h int) int {
	return h ^ 1
}

// there tells ErrRange of a half edge that so many edges do not have.
func there(h, edges int) api.Errno {
	if h < 0 || h/2 >= edges {
		return api.ErrRange
	}
	return api.OK
}

// ways are those of half edges, which the plan must have.
func ways(p api.Plan, l ...int) []api.Way {
	told := make([]api.Way, len(l))
	for i, h := range l {
		told[i] = halfOf(p, h).way()
	}
	return told
}

// froms is of each half edge the point at which it begins.
func froms(p api.Plan) []int {
	l := make([]int, 2*len(p.Edges))
	for h := range l {
		l[h] = halfOf(p, h).from()
	}
	return l
}
