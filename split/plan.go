package split

import (
	"slices"

	"merestone/angle"
	"merestone/api"
)

// A leave is an edge as seen from one of its ends.
type leave struct {
	edge int
	way  api.Way
}

// leaving is the edges that end at the point i, each with its way from there.
func leaving(p api.Plan, i int) ([]leave, api.Errno) {
	if i < 0 || i >= len(p.Points) {
		return nil, api.ErrRange
	}
	var l []leave
	for k, e := range p.Edges {
		switch i {
		case e.A:
			l = append(l, leave{edge: k, way: e.Way})
		case e.B:
			l = append(l, leave{edge: k, way: api.Way{X: -e.Way.X, Y: -e.Way.Y}})
		}
	}
	return l, api.OK
}

// turned is the edges by the order of their ways.
func turned(l []leave) []int {
	slices.SortStableFunc(l, func(x, y leave) int {
		c, _ := angle.Cmp(x.way, y.way)
		return c
	})
	var told []int
	for _, x := range l {
		told = append(told, x.edge)
	}
	return told
}

// together is the places below many, in lists of those that belong together, as each of these joins two places:
// each list rising, by their first ones. What joins a place that there is not joins nothing.
func together[T any](many int, l []T, joins func(T) (int, int)) [][]int {
	ahead := make([]int, many) // leads from each place to one of its list that is ahead of it; from the first to itself
	for i := range ahead {
		ahead[i] = i
	}
	first := func(i int) int {
		for ahead[i] != i {
			ahead[i] = ahead[ahead[i]] // so that the way is shorter the next time
			i = ahead[i]
		}
		return i
	}
	for _, x := range l {
		a, b := joins(x)
		if min(a, b) < 0 || max(a, b) >= many {
			continue
		}
		a, b = first(a), first(b)
		ahead[max(a, b)] = min(a, b)
	}
	return gathered(many, first)
}

// gathered is the places below many, in lists of those that have the same first one.
func gathered(many int, first func(int) int) [][]int {
	var lists [][]int
	at := make([]int, many) // of each first one where its list is
	for i := range many {
		f := first(i)
		if f == i {
			at[i] = len(lists)
			lists = append(lists, nil)
		}
		lists[at[f]] = append(lists[at[f]], i)
	}
	return lists
}
