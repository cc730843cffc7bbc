package dcel

import (
	"iter"
	"slices"

	"merestone/angle"
	"merestone/api"
)

// nexts is of each half edge the next one. With the clock, behind its twin comes the one that is ahead of that by the
// order of ways, which goes against the clock.
func nexts(p api.Plan) []int {
	next := make([]int, 2*len(p.Edges))
	for _, l := range leaving(p) {
		ahead := l[len(l)-1]
		for _, h := range l {
			next[twin(h)] = ahead
			ahead = h
		}
	}
	return next
}

// leaving is of each point the half edges that leave there, by the order of their ways. Each half edge is in one list
// and once, whatever stands in the plan, so that each is the next one of just one.
func leaving(p api.Plan) map[int][]int {
	lists := map[int][]int{}
	for h, from := range froms(p) {
		lists[from] = append(lists[from], h)
	}
	for _, l := range lists {
		slices.SortStableFunc(l, func(a, b int) int {
			w := ways(p, a, b)
			c, _ := angle.Cmp(w[0], w[1])
			return c
		})
	}
	return lists
}

// cycles goes over the cycles, each as its half edges from the least one on, by these.
func cycles(next []int) iter.Seq[[]int] {
	return func(yield func(cycle []int) bool) {
		seen := map[int]struct{}{}
		for h := range next {
			if l := walk(next, h, seen); len(l) > 0 && !yield(l) {
				return
			}
		}
	}
}

// walk is the half edges from h on, each the next one of the one ahead, up to one that was seen, or is not there.
func walk(next []int, h int, seen map[int]struct{}) []int {
	var l []int
	for h >= 0 && h < len(next) {
		if _, been := seen[h]; been {
			break
		}
		seen[h] = struct{}{}
		l = append(l, h)
		h = next[h]
	}
	return l
}

// outside tells if a corner at the cycle's least point has the way to the left. The plan's points are in order, so
// the least one is that of the least place.
func outside(p api.Plan, m api.Mesh, cycle []int) bool {
	to := func(h int) int { return m.From[twin(h)] }
	at := least(cycle, to)
	return slices.ContainsFunc(cycle, func(h int) bool {
		return to(h) == at && corner(p, m, h)(api.Way{X: -1})
	})
}

// corner tells of a way if the corner where h ends has it.
func corner(p api.Plan, m api.Mesh, h int) func(w api.Way) bool {
	l := ways(p, m.Next[h], twin(h))
	return func(w api.Way) bool {
		is, _ := angle.Between(l[0], l[1], w)
		return is
	}
}

// least is the least of what is told of them, one of which there must be.
func least[T any](l []T, told func(T) int) int {
	x := told(l[0])
	for _, one := range l {
		x = min(x, told(one))
	}
	return x
}
