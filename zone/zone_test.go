package zone_test

import (
	"slices"
	"testing"

	"merestone/api"
	"merestone/seg"
	"merestone/zone"
)

// to is a segment by its coordinates.
func to(ax, ay, bx, by int64) api.Seg {
	return curve(1, ax, ay, bx, by).Seg
}

// all is what Edges goes over.
func all(p api.Plan, t api.Seg) []int {
	return slices.Collect(zone.Edges(p, t))
}

// agree tells if all calls tell of a segment what the zone has.
func agree(s api.Structure, t api.Seg, z api.Zone) bool {
	free, e := zone.Free(s, t)
	for k := range s.Plan.Edges {
		if _, is := slices.BinarySearch(z.Edges, k); zone.Meets(s.Plan, k, t) != is {
			return false
		}
	}
	return e == api.OK && free == (len(z.Points)+len(z.Edges) == 0) && slices.Equal(all(s.Plan, t), z.Edges)
}

func TestZone(t *testing.T) {
	below := dice(7)
	var points, edges, along, cut, free, inside, shared int
	drawings(81, func(l []api.Curve) {
		s := made(t, l...)
		d := drawn(s)
		for _, one := range asked(l, below) {
			wanted := d.zone(one)
			z, e := zone.Of(s, one)
			if !sameZone(z, wanted) || e != api.OK {
				t.Fatal(l, one, z, e, wanted)
			}
			if !agree(s, one, wanted) {
				t.Fatal(l, one, wanted, "not all calls tell this")
			}
			points, edges, along, cut = points+len(z.Points), edges+len(z.Edges), along+len(z.Along), cut+len(z.Cut)
			if len(z.Edges) == 0 {
				free++
			}
			if len(z.Edges) == 1 && len(z.Points)+len(z.Cut) == 0 {
				inside++
			}
			if len(z.IDs) > 2 {
				shared++
			}
		}
	})
	if min(points, edges, along, cut, free, inside, shared) < 99 {
		t.Error("not all are there", points, edges, along, cut, free, inside, shared)
	}
}

// triangle is that of the document's examples: points 0 0, 0 4, 4 0; edges 0-1, 0-2, 1-2.
func triangle() []api.Curve {
	return []api.Curve{curve(1, 0, 0, 4, 0), curve(2, 4, 0, 0, 4), curve(3, 0, 4, 0, 0)}
}

// crossed is two curves that cross at 3/2 1/2: points 0 0, 0 1, 3/2 1/2, 3 0, 3 1; edges 0-2, 1-2, 2-3, 2-4.
func crossed() []api.Curve {
	return []api.Curve{curve(1, 0, 0, 3, 1), curve(2, 0, 1, 3, 0)}
}

// nest is three squares, each within the one ahead, and a segment in the least.
func nest() []api.Curve {
	return slices.Concat(square(1, 0, 0, 12), square(2, 2, 2, 8), square(3, 4, 4, 4), []api.Curve{curve(4, 5, 6, 7, 6)})
}

func TestRows(t *testing.T) {
	upright := []api.Curve{curve(1, 0, 0, 0, 4), curve(2, 0, 6, 0, 9)} // points 0 0, 0 4, 0 6, 0 9
	bound := square(1, -most, -most, 2*most)                           // edges 0-1, 0-2, 1-3, 2-3
	close := []api.Curve{curve(1, -most, -most, most, most), curve(2, -most, -most+1, most, most-1)}
	twice := slices.Concat(square(9, 0, 0, 4), square(2, 0, 0, 4), square(9, 0, 0, 4), square(1<<31-1, 4, 0, 4))
	for _, c := range []struct {
		what                      string
		l                         []api.Curve
		t                         api.Seg
		points, edges, along, cut []int
		ids                       []int64
	}{
		{"of nothing", nil, to(0, 0, 1, 1), nil, nil, nil, nil, nil},
		{"across the level one", triangle(), to(1, -1, 1, 1), nil, []int{1}, nil, []int{1}, []int64{1}},
		{"from a corner along half of a side", triangle(), to(0, 0, 2, 0), []int{0}, []int{0, 1}, nil, nil, []int64{1, 3}},
		{"within", triangle(), to(1, 1, 2, 1), nil, nil, nil, nil, nil},
		{"outside", triangle(), to(-1, -1, 9, -1), nil, nil, nil, nil, nil},
		{"past a corner, close by", triangle(), to(3, 2, 5, -1), nil, nil, nil, nil, nil},
		{"along a side", triangle(), to(0, 0, 4, 0), []int{0, 2}, []int{0, 1, 2}, []int{1}, nil, []int64{1, 2, 3}},
		{"along it the other way", triangle(), to(4, 0, 0, 0), []int{0, 2}, []int{0, 1, 2}, []int{1}, nil, []int64{1, 2, 3}},
		{"along it and past both ends", triangle(), to(-3, 0, 9, 0), []int{0, 2}, []int{0, 1, 2}, []int{1}, nil, []int64{1, 2, 3}},
		{"within a side", triangle(), to(1, 0, 3, 0), nil, []int{1}, nil, nil, []int64{1}},
		{"within a side, the other way", triangle(), to(3, 0, 1, 0), nil, []int{1}, nil, nil, []int64{1}},
		{"within the upright one", triangle(), to(0, 3, 0, 1), nil, []int{0}, nil, nil, []int64{3}},
		{"within the third", triangle(), to(1, 3, 3, 1), nil, []int{2}, nil, nil, []int64{2}},
		{"on a side's line, past its end", triangle(), to(5, 0, 9, 0), nil, nil, nil, nil, nil},
		{"on its line, ahead of its beginning", triangle(), to(-5, 0, -1, 0), nil, nil, nil, nil, nil},
		{"on the third's line, past its end", triangle(), to(5, -1, 6, -2), nil, nil, nil, nil, nil},
		{"from a side on", triangle(), to(2, 0, 2, 1), nil, []int{1}, nil, nil, []int64{1}},
		{"up to it", triangle(), to(2, -3, 2, 0), nil, []int{1}, nil, nil, []int64{1}},
		{"from a side to another one", triangle(), to(2, 0, 2, 2), nil, []int{1, 2}, nil, nil, []int64{1, 2}},
		{"from a side through another one", triangle(), to(2, 0, 2, 3), nil, []int{1, 2}, nil, []int{2}, []int64{1, 2}},
		{"through two sides", triangle(), to(1, -1, 1, 9), nil, []int{1, 2}, nil, []int{1, 2}, []int64{1, 2}},
		{"through two others", triangle(), to(-1, 3, 7, -1), nil, []int{0, 2}, nil, []int{0, 2}, []int64{2, 3}},
		{"through a corner and a side", triangle(), to(-1, -1, 3, 3), []int{0}, []int{0, 1, 2}, nil, []int{2}, []int64{1, 2, 3}},
		{"past a corner that it touches", triangle(), to(-1, 1, 1, -1), []int{0}, []int{0, 1}, nil, nil, []int64{1, 3}},
		{"up to a corner", triangle(), to(-1, -1, 0, 0), []int{0}, []int{0, 1}, nil, nil, []int64{1, 3}},
		{"from corner to side", triangle(), to(0, 4, 2, 0), []int{1}, []int{0, 1, 2}, nil, nil, []int64{1, 2, 3}},
		{"from corner through a side", triangle(), to(0, 4, 3, -2), []int{1}, []int{0, 1, 2}, nil, []int{1}, []int64{1, 2, 3}},
		{"a side's line met past its end", triangle(), to(5, -1, 5, 1), nil, nil, nil, nil, nil},
		{"a line that goes on would meet it", triangle(), to(2, -4, 2, -1), nil, nil, nil, nil, nil},
		{"through where they cross", crossed(), to(1, 0, 2, 1), []int{2}, []int{0, 1, 2, 3}, nil, nil, []int64{1, 2}},
		{"along both parts of one", crossed(), to(0, 0, 3, 1), []int{0, 2, 4}, []int{0, 1, 2, 3}, []int{0, 3}, nil, []int64{1, 2}},
		{"along one part and past it", crossed(), to(-3, 2, 3, 0), []int{1, 2, 3}, []int{0, 1, 2, 3}, []int{1, 2}, nil, []int64{1, 2}},
		{"through two parts", crossed(), to(1, 0, 1, 1), nil, []int{0, 1}, nil, []int{0, 1}, []int64{1, 2}},
		{"through the other two", crossed(), to(2, 7, 2, -7), nil, []int{2, 3}, nil, []int{2, 3}, []int64{1, 2}},
		{"between both", crossed(), to(2, 3, 2, 1), nil, nil, nil, nil, nil},
		{"close beside where they cross", crossed(), to(-most, -most, most, most-2), nil, []int{2, 3}, nil, []int{2, 3}, []int64{1, 2}},
		{"along two upright ones", upright, to(0, -1, 0, 7), []int{0, 1, 2}, []int{0, 1}, []int{0}, nil, []int64{1, 2}},
		{"between two upright ones", upright, to(0, 5, 1, 5), nil, nil, nil, nil, nil},
		{"from one upright one to the other", upright, to(0, 6, 0, 4), []int{1, 2}, []int{0, 1}, nil, nil, []int64{1, 2}},
		{"across an upright one", upright, to(-1, 1, 1, 3), nil, []int{0}, nil, []int{0}, []int64{1}},
		{"across all squares", nest(), to(-1, 5, 13, 5), nil, []int{0, 3, 6, 10, 11, 12}, nil, []int{0, 3, 6, 10, 11, 12}, []int64{1, 2, 3}},
		{"on the segment in the least", nest(), to(6, 6, 6, 7), nil, []int{9}, nil, nil, []int64{4}},
		{"from corner to corner", bound, to(-most, -most, most, most), []int{0, 3}, []int{0, 1, 2, 3}, nil, nil, []int64{1}},
		{"across at the bound", bound, to(-most, 0, most, 1), nil, []int{0, 3}, nil, nil, []int64{1}},
		{"along the bound", bound, to(most, -most, most, most), []int{2, 3}, []int{1, 2, 3}, []int{3}, nil, []int64{1}},
		{"close to the corner of the bound", bound, to(most-1, most, most, most-1), nil, []int{2, 3}, nil, nil, []int64{1}},
		{"through the lower one of two that are close, up to the other", close, to(0, -1, most-1, most-1), nil, []int{2, 3}, nil, []int{2}, []int64{1, 2}},
		{"where three objects are, one twice", twice, to(4, 2, 3, 2), nil, []int{3}, nil, nil, []int64{2, 9, 1<<31 - 1}},
		{"along that", twice, to(4, 4, 4, 0), []int{2, 3}, []int{1, 2, 3, 4, 5}, []int{3}, nil, []int64{2, 9, 1<<31 - 1}},
	} {
		s := made(t, c.l...)
		d := drawn(s)
		z, e := zone.Of(s, c.t)
		wanted := d.zone(c.t)
		if !sameZone(z, wanted) || e != api.OK || !agree(s, c.t, wanted) {
			t.Error(c.what, z, e, wanted)
		}
		if named := (api.Zone{Points: c.points, Edges: c.edges, Along: c.along, Cut: c.cut, IDs: c.ids}); !sameZone(z, named) {
			t.Error(c.what, z, named, s.Plan)
		}
	}
}

func TestWrongSegments(t *testing.T) {
	for _, s := range []api.Structure{{}, made(t), made(t, nest()...), made(t, slices.Concat(square(1, -1, -1, 2), square(2, -most, -most, 2*most))...)} {
		for _, one := range wrongSegs() {
			if z, e := zone.Of(s, one); !noZone(z) || e != api.ErrArg {
				t.Error(one, z, e)
			}
			if is, e := zone.Free(s, one); is || e != api.ErrArg {
				t.Error(one, is, e)
			}
			for k := range s.Plan.Edges {
				if zone.Meets(s.Plan, k, one) {
					t.Error(one, k)
				}
			}
			if l := all(s.Plan, one); len(l) > 0 {
				t.Error(one, l)
			}
		}
	}
}

func TestEdgesThatThereAreNot(t *testing.T) {
	for _, l := range [][]api.Curve{nil, triangle(), nest()} {
		p := made(t, l...).Plan
		for _, k := range strange(len(p.Edges)) {
			for _, one := range append(wrongSegs(), to(0, 0, 4, 0), to(-most, 1, most, 2)) {
				if zone.Meets(p, k, one) {
					t.Error(k, one)
				}
			}
		}
	}
}

func TestEdgesIsLeftAndGoneOverAgain(t *testing.T) {
	p := copied(made(t, nest()...)).Plan
	across := to(-1, 6, 13, 6)
	wanted := all(p, across)
	if len(wanted) != 7 {
		t.Fatal(wanted)
	}
	edges := zone.Edges(p, across)
	clear(p.Points) // what was handed in is not kept
	clear(p.Edges)
	for n := range len(wanted) + 1 {
		var got []int
		for k := range edges {
			if len(got) == n {
				break
			}
			got = append(got, k)
		}
		if !slices.Equal(got, wanted[:n]) {
			t.Error(n, got)
		}
	}
	rounds := 0
	for range edges { // one within another
		rounds++
		if got := slices.Collect(edges); !slices.Equal(got, wanted) {
			t.Error(got)
		}
	}
	if rounds != len(wanted) {
		t.Error(rounds)
	}
}

func TestWhatIsHandedInStaysAndAnswersAreNewMemory(t *testing.T) {
	s := made(t, slices.Concat(nest(), nest(), triangle(), []api.Curve{curve(9, -3, -3, 14, 13)})...)
	s.Plan.Points = append(s.Plan.Points, api.Point{}, api.Point{})[:len(s.Plan.Points)]
	s.Plan.Edges = append(s.Plan.Edges, api.Edge{A: -7}, api.Edge{A: -7})[:len(s.Plan.Edges)]
	for k, e := range s.Plan.Edges {
		s.Plan.Edges[k].IDs = append(e.IDs, -7, -7)[:len(e.IDs)]
	}
	kept := copied(s)
	for _, one := range []api.Seg{to(0, 0, 12, 0), to(-3, 4, 15, 4), to(-3, -3, 14, 13), to(-1, 6, 13, 6)} {
		wanted, _ := zone.Of(s, one)
		z, _ := zone.Of(s, one)
		for _, l := range [][]int{z.Points, z.Edges, z.Along, z.Cut} {
			l = l[:cap(l)]
			for i := range l {
				l[i] = -9
			}
		}
		clear(z.IDs[:cap(z.IDs)])
		if again, _ := zone.Of(s, one); !sameZone(again, wanted) || len(wanted.Edges) == 0 {
			t.Error(one, again, wanted)
		}
		y, _ := zone.Of(s, one) // what one list of an answer shares with another one is overwritten with it
		x, _ := zone.Of(s, one)
		y.Points, y.Along = append(y.Points, -9), append(y.Along, -9)
		y.Edges, y.Cut = append(y.Edges, -8), append(y.Cut, -8)
		if !slices.Equal(y.Points, append(x.Points, -9)) || !slices.Equal(y.Along, append(x.Along, -9)) || !slices.Equal(y.Edges, append(x.Edges, -8)) || !slices.Equal(y.Cut, append(x.Cut, -8)) {
			t.Error("lists share memory", y)
		}
		zone.Free(s, one)
		for k := range zone.Edges(s.Plan, one) {
			zone.Meets(s.Plan, k, one)
		}
	}
	many, edges := len(s.Plan.Points), len(s.Plan.Edges)
	if !same(s, kept) || s.Plan.Points[:many+1][many] != (api.Point{}) || s.Plan.Edges[:edges+1][edges].A != -7 {
		t.Error("what was handed in is changed", s)
	}
	for _, e := range s.Plan.Edges {
		if n := len(e.IDs); !slices.Equal(e.IDs[:n+2][n:], []int64{-7, -7}) {
			t.Error("what is behind IDs is changed", e)
		}
	}
}

func TestAsManyAsMayBe(t *testing.T) {
	const many = api.MaxCorners
	var net, star, cross []api.Curve
	for i := range int64(many / 2) {
		net = append(net, curve(1+i, -1, i, many/2, i), curve(1000+i, i, many/2, i, -1))
	}
	for i := range int64(many) {
		star = append(star, curve(many-i, -most, i-many/2, most, many/2-i))
		cross = append(cross, curve(1+i, -most+i*7, -most+i*i*200+3, most-i*i, most-i*100003-1))
	}
	s := made(t, net...)
	for _, c := range []struct {
		t                               api.Seg
		points, edges, along, cut, objs int
	}{
		{to(-1, 7, many/2, 7), many/2 + 2, 3*many/2 + 1, many/2 + 1, 0, many/2 + 1},
		{to(7, -9, 7, most), many/2 + 2, 3*many/2 + 1, many/2 + 1, 0, many/2 + 1},
		{to(0, 0, many/2-1, many/2-1), many / 2, 2 * many, 0, 0, many},
		{to(0, 0, 2, 1), 2, 9, 0, 1, 5},
		{to(-9, -9, many, -9), 0, 0, 0, 0, 0},
	} {
		z, e := zone.Of(s, c.t)
		if e != api.OK || len(z.Points) != c.points || len(z.Edges) != c.edges || len(z.Along) != c.along || len(z.Cut) != c.cut || len(z.IDs) != c.objs {
			t.Error(c.t, len(z.Points), len(z.Edges), len(z.Along), len(z.Cut), len(z.IDs), e)
		}
		if is, e := zone.Free(s, c.t); is != (c.edges == 0) || e != api.OK {
			t.Error(c.t, is, e)
		}
	}
	s = made(t, star...)
	if z, e := zone.Of(s, to(0, -1, 0, 1)); len(z.Points) != 1 || len(z.Edges) != 2*many || len(z.Cut)+len(z.Along) > 0 || len(z.IDs) != many || e != api.OK {
		t.Error(z, e)
	}
	if z, e := zone.Of(s, to(1, -1, 1, 1)); len(z.Points) > 0 || len(z.Edges) != many || len(z.Cut) != many || !slices.IsSorted(z.Edges) || !slices.IsSorted(z.IDs) || e != api.OK {
		t.Error(z, e)
	}
	s = made(t, cross...)
	for _, i := range []int{0, 99, many - 1} {
		z, e := zone.Of(s, cross[i].Seg)
		if e != api.OK || len(z.Points) < many/2 || len(z.Points) != len(z.Along)+1 || len(z.Cut) > 0 || !slices.Contains(z.IDs, cross[i].ID) {
			t.Error(i, len(z.Points), len(z.Along), len(z.Cut), e)
		}
		for _, k := range z.Along {
			if !slices.Contains(s.Plan.Edges[k].IDs, cross[i].ID) || !zone.Meets(s.Plan, k, cross[i].Seg) {
				t.Fatal(i, k)
			}
		}
	}
	if e := seg.Check(cross[many-1].Seg); e != api.OK {
		t.Error(e)
	}
}
