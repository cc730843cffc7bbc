package ring_test

import (
	"slices"
	"testing"

	"merestone/api"
	"merestone/point"
	"merestone/ring"
)

// all is the rings that are simple, but for the longest.
func all() [][]api.Node {
	return slices.DeleteFunc(valid(), func(l []api.Node) bool { return len(l) > 20 })
}

// around are points at corners, in the middle of edges and of others, and outside.
func around(l []api.Node) []api.Point {
	points := []api.Point{at("0 0"), at("1/2 1/3"), at("3/2 1"), at("-5/7 2"), at("67108865 1")}
	for i, n := range l {
		p := must(point.Of(n))
		points = append(points, p)
		for _, m := range l[i+1:] {
			points = append(points, must(point.Mid(p, must(point.Of(m)))))
		}
	}
	return points
}

func TestTheAreaIsNotNought(t *testing.T) {
	for _, l := range valid() {
		if must(ring.Area(l...)) == 0 {
			t.Error(l)
		}
	}
}

func TestWhereTheCornersGoRound(t *testing.T) {
	for _, l := range all() {
		double, points := must(ring.Area(l...)), around(l)
		for i := range l {
			gone := append(slices.Clone(l[i:]), l[:i]...)
			back := turned(gone)
			if ring.Check(gone...) != api.OK || ring.Check(back...) != api.OK {
				t.Error(l, i)
			}
			if must(ring.Area(gone...)) != double || must(ring.Area(back...)) != -double {
				t.Error(l, i)
			}
			for _, p := range points {
				at := must(ring.Where(p, l...))
				if must(ring.Where(p, gone...)) != at || must(ring.Where(p, back...)) != at {
					t.Error(l, i, p)
				}
			}
		}
	}
}

// changed is a ring whose nodes are changed; nothing, if one of them may not be.
func changed(l []api.Node, change func(api.Node) api.Node) []api.Node {
	var other []api.Node
	for _, n := range l {
		n = change(n)
		if point.Check(n) != api.OK {
			return nil
		}
		other = append(other, n)
	}
	return other
}

func TestAllIsMoved(t *testing.T) {
	went := 0
	for _, d := range [][2]int64{{1, 0}, {-7, 5}, {most - 9, 9 - most}, {-1 << 26, 1}} {
		move := func(n api.Node) api.Node { return api.Node{X: n.X + d[0], Y: n.Y + d[1]} }
		few := all()
		for i, l := range few {
			other, next := changed(l, move), changed(few[(i+1)%len(few)], move)
			if other == nil {
				continue
			}
			went++
			if ring.Check(other...) != api.OK || must(ring.Area(other...)) != must(ring.Area(l...)) {
				t.Error(l, d)
			}
			if !slices.Equal(must(ring.Laid(other...)), changed(must(ring.Laid(l...)), move)) {
				t.Error(l, d)
			}
			for _, p := range around(l) {
				if must(ring.Where(must(point.Move(p, d[0], d[1])), other...)) != must(ring.Where(p, l...)) {
					t.Error(l, d, p)
				}
			}
			if next != nil && must(ring.Apart(other, next)) != must(ring.Apart(l, few[(i+1)%len(few)])) {
				t.Error(l, d)
			}
		}
	}
	if went < 100 {
		t.Error("too few were moved", went)
	}
}

func TestXForY(t *testing.T) {
	swap := func(n api.Node) api.Node { return api.Node{X: n.Y, Y: n.X} }
	few := all()
	for i, l := range few {
		other, next := changed(l, swap), few[(i+1)%len(few)]
		if ring.Check(other...) != api.OK || must(ring.Area(other...)) != -must(ring.Area(l...)) {
			t.Error(l)
		}
		for _, p := range around(l) {
			if must(ring.Where(api.Point{X: p.Y, Y: p.X}, other...)) != must(ring.Where(p, l...)) {
				t.Error(l, p)
			}
		}
		if must(ring.Apart(other, changed(next, swap))) != must(ring.Apart(l, next)) {
			t.Error(l, next)
		}
	}
	drawn(500, func(l []api.Node) { // simple or not
		if ring.Check(changed(l, swap)...) != ring.Check(l...) {
			t.Error(l)
		}
	})
}

func TestALaidRingIsLaid(t *testing.T) {
	for _, l := range valid() {
		one := must(ring.Laid(l...))
		if must(ring.Area(one...)) <= 0 || slices.MinFunc(one, order) != one[0] {
			t.Error(l, one)
		}
		if again := must(ring.Laid(one...)); !slices.Equal(again, one) {
			t.Error(l, again)
		}
	}
}

func TestTheMiddleOfAnEdgeIsOnIt(t *testing.T) {
	for _, l := range all() {
		for s := range ring.Edges(l...) {
			middle := must(point.Mid(must(point.Of(s.A)), must(point.Of(s.B))))
			if must(ring.Where(middle, l...)) != 0 {
				t.Error(l, s)
			}
		}
	}
}

func TestItDoesNotMatterWhoIsFirst(t *testing.T) {
	l := all()
	for i, a := range l {
		for _, b := range l[:i] {
			is := must(ring.Apart(a, b))
			if must(ring.Apart(b, a)) != is || must(ring.Apart(turned(a), b)) != is {
				t.Error(a, b)
			}
		}
	}
}
