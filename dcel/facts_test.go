package dcel_test

import (
	"math"
	"math/big"
	"slices"
	"testing"

	"merestone/api"
	"merestone/ratio"
	"merestone/seg"
	"merestone/split"
)

// most is the greatest coordinate of a node.
const most = 1 << 26

// curve is a curve by its object, and its segment's coordinates.
func curve(id, ax, ay, bx, by int64) api.Curve {
	return api.Curve{ID: id, Seg: api.Seg{A: api.Node{X: ax, Y: ay}, B: api.Node{X: bx, Y: by}}}
}

// along is curves from each node to the next one, and from the last one to the first, by coordinates.
func along(id int64, at ...[2]int64) []api.Curve {
	var l []api.Curve
	for i, a := range at {
		b := at[(i+1)%len(at)]
		l = append(l, curve(id, a[0], a[1], b[0], b[1]))
	}
	return l
}

// planned is the plan of curves that may be.
func planned(t *testing.T, l ...api.Curve) api.Plan {
	t.Helper()
	p, e := split.Split(l...)
	if e != api.OK {
		t.Fatal(l, e)
	}
	return p
}

// lists hands over lists of curves of all lengths below many, the same at each run: between nodes near one another,
// and in some lists between such at the bound too.
func lists(many int, do func(l []api.Curve)) {
	state := uint32(2463534242)
	below := func(n int) int {
		state ^= state << 13
		state ^= state >> 17
		state ^= state << 5
		return int(state % uint32(n))
	}
	far := []int64{-most, -most + 1, -1, 0, 1, most - 1, most}
	node := func(wide bool, size int) api.Node {
		if wide && below(3) == 0 {
			return api.Node{X: far[below(len(far))], Y: far[below(len(far))]}
		}
		return api.Node{X: int64(below(size) - size/2), Y: int64(below(size) - size/2)}
	}
	for n := range 24 * many {
		var l []api.Curve
		for len(l) < n%many {
			c := api.Curve{ID: int64(1 + below(5)), Seg: api.Seg{A: node(n%4 == 0, 3+n%7), B: node(n%4 == 0, 3+n%7)}}
			if seg.Check(c.Seg) == api.OK {
				l = append(l, c)
			}
		}
		do(l)
	}
}

// farther is curves, so far to the right and up; false, if they may not be there.
func farther(l []api.Curve, dx, dy int64) ([]api.Curve, bool) {
	var moved []api.Curve
	for _, c := range l {
		c.Seg = api.Seg{A: api.Node{X: c.Seg.A.X + dx, Y: c.Seg.A.Y + dy}, B: api.Node{X: c.Seg.B.X + dx, Y: c.Seg.B.Y + dy}}
		if seg.Check(c.Seg) != api.OK {
			return nil, false
		}
		moved = append(moved, c)
	}
	return moved, true
}

// fraction is a Rat, as math/big has it.
func fraction(r api.Rat) *big.Rat {
	s, e := ratio.Text(r)
	x, ok := new(big.Rat).SetString(s)
	if e != api.OK || !ok {
		panic(s)
	}
	return x
}

// begins and ends are the points of a half edge, way its way, by plain cases.
func begins(p api.Plan, h int) int {
	if h%2 == 0 {
		return p.Edges[h/2].A
	}
	return p.Edges[h/2].B
}

func ends(p api.Plan, h int) int {
	if h%2 == 0 {
		return p.Edges[h/2].B
	}
	return p.Edges[h/2].A
}

func way(p api.Plan, h int) api.Way {
	w := p.Edges[h/2].Way
	if h%2 == 0 {
		return w
	}
	return api.Way{X: -w.X, Y: -w.Y}
}

// other is the half edge that goes the other way.
func other(h int) int {
	if h%2 == 0 {
		return h + 1
	}
	return h - 1
}

// upper tells if a way goes up, or straight to the right.
func upper(w api.Way) bool {
	return w.Y > 0 || w.Y == 0 && w.X > 0
}

// isAhead tells if, from the way to the right on against the clock, a comes ahead of b.
func isAhead(a, b api.Way) bool {
	if upper(a) != upper(b) {
		return upper(a)
	}
	return a.X*b.Y > a.Y*b.X
}

// leaving is the half edges that leave a point, each put in ahead of those that it comes ahead of.
func leaving(p api.Plan, i int) []int {
	var l []int
	for h := range 2 * len(p.Edges) {
		if begins(p, h) != i {
			continue
		}
		at := slices.IndexFunc(l, func(g int) bool { return isAhead(way(p, h), way(p, g)) })
		if at < 0 {
			at = len(l)
		}
		l = slices.Insert(l, at, h)
	}
	return l
}

// following is the next one of a half edge: with the clock, the first one behind its twin.
func following(p api.Plan, h int) int {
	l := leaving(p, ends(p, h))
	at := slices.Index(l, other(h))
	return l[(at+len(l)-1)%len(l)]
}

// area is twice what a cycle goes round against the clock, less what it goes round with it.
func area(p api.Plan, cycle []int) *big.Rat {
	sum := new(big.Rat)
	for _, h := range cycle {
		a, b := p.Points[begins(p, h)], p.Points[ends(p, h)]
		left := new(big.Rat).Mul(fraction(a.X), fraction(b.Y))
		right := new(big.Rat).Mul(fraction(a.Y), fraction(b.X))
		sum.Add(sum, left.Sub(left, right))
	}
	return sum
}

// meshOf is the mesh of a plan by plain facts: a cycle is outside, if it goes round nothing against the clock.
func meshOf(p api.Plan) api.Mesh {
	var m api.Mesh
	for h := range 2 * len(p.Edges) {
		m.From = append(m.From, begins(p, h))
		m.Next = append(m.Next, following(p, h))
		m.Cycle = append(m.Cycle, -1)
	}
	for h := range m.Next {
		if m.Cycle[h] >= 0 {
			continue
		}
		var cycle []int
		for m.Cycle[h] < 0 {
			m.Cycle[h] = len(m.Outside)
			cycle = append(cycle, h)
			h = m.Next[h]
		}
		m.Outside = append(m.Outside, area(p, cycle).Sign() <= 0)
	}
	return m
}

// same tells if two meshes are the same in all.
func same(a, b api.Mesh) bool {
	return slices.Equal(a.From, b.From) && slices.Equal(a.Next, b.Next) && slices.Equal(a.Cycle, b.Cycle) && slices.Equal(a.Outside, b.Outside)
}

// copied is a mesh of its own memory.
func copied(m api.Mesh) api.Mesh {
	return api.Mesh{From: slices.Clone(m.From), Next: slices.Clone(m.Next), Cycle: slices.Clone(m.Cycle), Outside: slices.Clone(m.Outside)}
}

// count is how many cycles are outside.
func count(m api.Mesh) int {
	n := 0
	for _, is := range m.Outside {
		if is {
			n++
		}
	}
	return n
}

// strange are numbers that no half edge and no point of so many has.
func strange(many int) []int {
	return []int{-1, -2, many, many + 1, 2*many + 2, 1 << 32, -1 << 32, math.MaxInt, math.MaxInt - 1, math.MinInt, math.MinInt + 1}
}
