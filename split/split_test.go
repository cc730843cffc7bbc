package split_test

import (
	"iter"
	"math"
	"slices"
	"testing"

	"merestone/api"
	"merestone/limb"
	"merestone/point"
	"merestone/split"
)

// made is the plan of curves that may be.
func made(t *testing.T, l ...api.Curve) api.Plan {
	t.Helper()
	p, e := split.Split(l...)
	if e != api.OK {
		t.Fatal(l, e)
	}
	return p
}

func TestSplit(t *testing.T) {
	var cut, shared int
	lists(11, func(l []api.Curve) {
		handed := slices.Clone(l)
		wanted := planOf(l)
		if len(wanted.Edges) > len(l) {
			cut++
		}
		if slices.ContainsFunc(wanted.Edges, func(e api.Edge) bool { return len(e.IDs) > 2 }) {
			shared++
		}
		if got := made(t, l...); told(got) != told(wanted) || !slices.Equal(got.Points, wanted.Points) {
			t.Fatal(l, told(got), told(wanted))
		}
		if !slices.Equal(l, handed) {
			t.Fatal("what was handed in is changed", handed, l)
		}
	})
	if cut == 0 || shared == 0 {
		t.Error("not all are there", cut, shared)
	}
}

func TestSplitRows(t *testing.T) {
	for _, c := range []struct {
		l    []api.Curve
		want string
	}{
		{nil, `[] []`},
		{[]api.Curve{}, `[] []`},
		{[]api.Curve{curve(7, 2, 0, -4, 3)}, `["-4 3" "2 0"] ["0-1 (2 -1) [7]"]`},
		{[]api.Curve{curve(greatest, 0, most, 0, -most)}, `["0 -67108864" "0 67108864"] ["0-1 (0 1) [2147483647]"]`},
		{[]api.Curve{curve(1, most, most, -most, 1-most)}, `["-67108864 -67108863" "67108864 67108864"] ["0-1 (134217728 134217727) [1]"]`},
		{[]api.Curve{curve(1, 0, 0, 2, 2), curve(2, 0, 2, 2, 0)}, `["0 0" "0 2" "1 1" "2 0" "2 2"] ["0-2 (1 1) [1]" "1-2 (1 -1) [2]" "2-3 (1 -1) [2]" "2-4 (1 1) [1]"]`},
		{[]api.Curve{curve(2, 3, 1, 0, 0), curve(1, 1, 1, 2, -1)}, `["0 0" "1 1" "9/7 3/7" "2 -1" "3 1"] ["0-2 (3 1) [2]" "1-2 (1 -2) [1]" "2-3 (1 -2) [1]" "2-4 (3 1) [2]"]`},
		{[]api.Curve{curve(5, 0, 0, 2, 0), curve(3, 3, 0, 1, 0)}, `["0 0" "1 0" "2 0" "3 0"] ["0-1 (1 0) [5]" "1-2 (1 0) [3 5]" "2-3 (1 0) [3]"]`},
		{[]api.Curve{curve(5, 0, 0, 0, 9), curve(5, 0, 6, 0, 3), curve(2, 0, 3, 0, 6)}, `["0 0" "0 3" "0 6" "0 9"] ["0-1 (0 1) [5]" "1-2 (0 1) [2 5 5]" "2-3 (0 1) [5]"]`},
		{[]api.Curve{curve(1, 0, 0, 4, 0), curve(2, 1, 5, 1, 0), curve(3, 9, 9, 4, 0)}, `["0 0" "1 0" "1 5" "4 0" "9 9"] ["0-1 (1 0) [1]" "1-2 (0 1) [2]" "1-3 (1 0) [1]" "3-4 (5 9) [3]"]`},
		{[]api.Curve{curve(1, 0, 0, 1, 0), curve(1, 2, 0, 3, 0)}, `["0 0" "1 0" "2 0" "3 0"] ["0-1 (1 0) [1]" "2-3 (1 0) [1]"]`}, // of one line, apart
		{[]api.Curve{curve(1, 0, 0, 1, 0), curve(1, 1, 0, 3, 0)}, `["0 0" "1 0" "3 0"] ["0-1 (1 0) [1]" "1-2 (1 0) [1]"]`},       // of one line, they touch
		{[]api.Curve{curve(4, -1, -1, 1, 1), curve(3, -1, 1, 1, -1), curve(2, 0, -1, 0, 1), curve(1, 1, 0, -1, 0)}, // all through one point
			`["-1 -1" "-1 0" "-1 1" "0 -1" "0 0" "0 1" "1 -1" "1 0" "1 1"] ["0-4 (1 1) [4]" "1-4 (1 0) [1]" "2-4 (1 -1) [3]" "3-4 (0 1) [2]" "4-5 (0 1) [2]" "4-6 (1 -1) [3]" "4-7 (1 0) [1]" "4-8 (1 1) [4]"]`},
	} {
		if got := told(made(t, c.l...)); got != c.want {
			t.Error(c.l, got)
		}
	}
}

// net is so many curves to the right and as many upwards, each across each.
func net(many int64) []api.Curve {
	var l []api.Curve
	for i := range many {
		l = append(l, curve(1, -1, i, many, i), curve(2, i, many, i, -1))
	}
	return l
}

func TestAsManyAsMayBe(t *testing.T) {
	l := net(api.MaxCorners / 2)
	p := made(t, l...)
	if len(p.Points) != 256*256+4*256 || len(p.Edges) != 2*256*257 {
		t.Error(len(p.Points), len(p.Edges))
	}
	if got, e := split.Split(append(l, curve(3, 0, 0, 1, 0))...); !split.Same(got, api.Plan{}) || e != api.ErrLong {
		t.Error(len(got.Points), e)
	}
	for i := range l { // all on one line, one within the other
		n := int64(i) + 1
		l[i] = curve(n, -n, n, n, -n)
	}
	p = made(t, l...)
	if len(p.Points) != 1024 || len(p.Edges) != 1023 || len(p.Edges[511].IDs) != 512 || len(p.Edges[0].IDs) != 1 {
		t.Error(len(p.Points), len(p.Edges))
	}
}

func TestCurvesThatMayNotBe(t *testing.T) {
	few := []api.Curve{curve(1, 0, 0, 2, 2), curve(2, 0, 2, 2, 0), curve(3, 1, 1, 5, 1)}
	for _, c := range wrong() {
		for _, l := range [][]api.Curve{nil, few, net(256), append(net(256), few...)} { // ErrArg comes ahead of ErrLong
			for _, at := range []int{0, len(l) / 2, len(l)} {
				got, e := split.Split(slices.Insert(slices.Clone(l), at, c)...)
				if got.Points != nil || got.Edges != nil || e != api.ErrArg {
					t.Fatal(c, len(l), at, e)
				}
			}
		}
	}
}

func TestFind(t *testing.T) {
	lists(11, func(l []api.Curve) {
		p := made(t, l...)
		for i, at := range p.Points {
			if got, is := split.Find(p, at); got != i || !is {
				t.Fatal(l, i, got, is)
			}
		}
		for _, edge := range p.Edges { // what lies between its ends is no point of the plan
			mid, e := point.Mid(p.Points[edge.A], p.Points[edge.B])
			if got, is := split.Find(p, mid); e == api.OK && (got != 0 || is) {
				t.Fatal(l, edge, got, is)
			}
		}
	})
}

// misfits are points that may not be, or that no plan has.
func misfits() []api.Point {
	one, two := limb.Of(1), limb.Of(2)
	return []api.Point{
		{}, {X: api.Rat{N: one, D: one}}, {X: api.Rat{N: two, D: two}, Y: api.Rat{N: two, D: two}}, {X: api.Rat{N: limb.Of(-1), D: limb.Of(-1)}, Y: api.Rat{N: one, D: one}},
		{X: api.Rat{N: one, D: one}, Y: api.Rat{N: api.Int{Neg: true}, D: one}}, {X: api.Rat{N: api.Int{Mag: [4]uint64{0, 1 << 32}}, D: one}, Y: api.Rat{N: one, D: one}},
		at("1 1/2"), at("1 3"), at("-1 1"), at("3 1"), at("79228162514264337593543950335 -79228162514264337593543950335"), at("-1/18446744073709551615 0"),
	}
}

func TestFindOfWhatIsNotThere(t *testing.T) {
	for _, p := range []api.Plan{{}, {Points: []api.Point{}}, made(t, curve(1, 0, 0, 2, 2), curve(2, 0, 2, 2, 0)), made(t, curve(1, 1, 0, 1, 2))} {
		for _, at := range misfits() {
			if i, is := split.Find(p, at); i != 0 || is {
				t.Error(told(p), at, i, is)
			}
		}
	}
}

func TestDegreeAndAround(t *testing.T) {
	deepest := 0
	lists(11, func(l []api.Curve) {
		p := made(t, l...)
		for i := range p.Points {
			var wanted []int
			for k, e := range p.Edges {
				if e.A == i || e.B == i {
					wanted = append(wanted, k)
				}
			}
			n, e := split.Degree(p, i)
			got, f := split.Around(p, i)
			if n != len(wanted) || e != api.OK || f != api.OK {
				t.Fatal(l, i, n, e, f)
			}
			for k := range got[1:] {
				if !isAhead(away(p.Edges[got[k]], i), away(p.Edges[got[k+1]], i)) {
					t.Fatal(l, i, got)
				}
			}
			slices.Sort(got)
			if !slices.Equal(got, wanted) {
				t.Fatal(l, i, got, wanted)
			}
			deepest = max(deepest, n)
		}
	})
	if deepest < 5 {
		t.Error("none has many", deepest)
	}
}

func TestDegreeAndAroundRows(t *testing.T) {
	p := made(t, curve(1, 0, 0, 2, 2), curve(2, 0, 2, 2, 0))
	for i, wanted := range [][]int{{0}, {1}, {3, 1, 0, 2}, {2}, {3}} {
		n, e := split.Degree(p, i)
		got, f := split.Around(p, i)
		if n != len(wanted) || e != api.OK || !slices.Equal(got, wanted) || f != api.OK {
			t.Error(i, n, e, got, f)
		}
	}
	star := made(t, curve(4, -1, -1, 1, 1), curve(3, -1, 1, 1, -1), curve(2, 0, -1, 0, 1), curve(1, 1, 0, -1, 0))
	if got, e := split.Around(star, 4); !slices.Equal(got, []int{6, 7, 4, 2, 1, 0, 3, 5}) || e != api.OK {
		t.Error(got, e)
	}
	for _, p := range []api.Plan{{}, p, star} {
		for _, i := range []int{-1, len(p.Points), len(p.Points) + 1, math.MaxInt, math.MinInt} {
			if n, e := split.Degree(p, i); n != 0 || e != api.ErrRange {
				t.Error(i, n, e)
			}
			if l, e := split.Around(p, i); l != nil || e != api.ErrRange {
				t.Error(i, l, e)
			}
		}
	}
}

// sameLists tells if lists have the same places.
func sameLists(a, b [][]int) bool {
	return slices.EqualFunc(a, b, slices.Equal[[]int])
}

func TestParts(t *testing.T) {
	many := 0
	lists(11, func(l []api.Curve) {
		p := made(t, l...)
		wanted := partsOf(p)
		many = max(many, len(wanted))
		if got := slices.Collect(split.Parts(p)); !sameLists(got, wanted) {
			t.Fatal(l, got, wanted)
		}
	})
	if many < 4 {
		t.Error("none has many", many)
	}
	if got := slices.Collect(split.Parts(made(t, net(256)...))); len(got) != 1 || len(got[0]) != 256*256+4*256 {
		t.Error(len(got))
	}
}

func TestPartsRows(t *testing.T) {
	for _, c := range []struct {
		l    []api.Curve
		want [][]int
	}{
		{nil, nil},
		{[]api.Curve{curve(1, 0, 0, 2, 2), curve(2, 0, 2, 2, 0)}, [][]int{{0, 1, 2, 3, 4}}},
		{[]api.Curve{curve(1, 0, 0, 2, 0), curve(1, 0, 1, 2, 1)}, [][]int{{0, 2}, {1, 3}}},
		{[]api.Curve{curve(1, 0, 0, 9, 0), curve(1, 1, 1, 2, 1), curve(1, 3, 1, 4, 1), curve(1, 3, 2, 2, 1)}, [][]int{{0, 6}, {1, 2, 4}, {3, 5}}},
		{[]api.Curve{curve(1, 0, 5, 4, 5), curve(1, 0, 3, 5, 3), curve(1, 4, 5, 5, 3), curve(1, 1, 0, 5, 0)}, [][]int{{0, 1, 3, 5}, {2, 4}}}, // they come together at last
	} {
		if got := slices.Collect(split.Parts(made(t, c.l...))); !sameLists(got, c.want) {
			t.Error(c.l, got)
		}
	}
}

func TestPartsAreLeftAndGoneOverAgain(t *testing.T) {
	p := made(t, curve(1, 0, 0, 2, 0), curve(1, 0, 1, 2, 1), curve(1, 0, 2, 2, 2), curve(1, 0, 2, 2, 3))
	wanted := [][]int{{0, 3}, {1, 4}, {2, 5, 6}}
	parts := split.Parts(p)
	clear(p.Edges) // what was handed in is not kept
	clear(p.Points)
	for n := range len(wanted) + 1 {
		var got [][]int
		for part := range parts {
			if len(got) == n {
				break
			}
			got = append(got, slices.Clone(part))
			clear(part) // nor is what was told
		}
		if !sameLists(got, wanted[:n]) {
			t.Error(n, got)
		}
	}
	for range parts { // one within another
		if got := slices.Collect(parts); !sameLists(got, wanted) {
			t.Error(got)
		}
	}
}

// changed goes over plans that are not the same as that of these curves.
func changed(t *testing.T, l []api.Curve) iter.Seq[api.Plan] {
	return func(yield func(api.Plan) bool) {
		for _, change := range []func(p *api.Plan){
			func(p *api.Plan) { p.Points[1] = at("1/3 0") },
			func(p *api.Plan) { p.Points = p.Points[1:] },
			func(p *api.Plan) { p.Points = append(p.Points, at("9 9")) },
			func(p *api.Plan) { p.Edges = p.Edges[:len(p.Edges)-1] },
			func(p *api.Plan) { p.Edges = append(p.Edges, p.Edges[0]) },
			func(p *api.Plan) { p.Edges[0], p.Edges[1] = p.Edges[1], p.Edges[0] },
			func(p *api.Plan) { p.Edges[1].A++ },
			func(p *api.Plan) { p.Edges[1].B-- },
			func(p *api.Plan) { p.Edges[1].Way.X++ },
			func(p *api.Plan) { p.Edges[1].Way.Y-- },
			func(p *api.Plan) { p.Edges[1].IDs[0]++ },
			func(p *api.Plan) { p.Edges[1].IDs = nil },
			func(p *api.Plan) { p.Edges[1].IDs = append(p.Edges[1].IDs, 9) },
		} {
			p := made(t, l...)
			change(&p)
			if !yield(p) {
				return
			}
		}
	}
}

func TestSame(t *testing.T) {
	l := []api.Curve{curve(1, 0, 0, 2, 2), curve(2, 0, 2, 2, 0)}
	p := made(t, l...)
	for other := range changed(t, l) {
		if split.Same(p, other) || split.Same(other, p) {
			t.Error(told(other))
		}
		if !split.Same(other, other) {
			t.Error("itself", told(other))
		}
	}
	if !split.Same(p, made(t, l...)) || split.Same(p, api.Plan{}) || split.Same(api.Plan{}, p) {
		t.Error(told(p))
	}
	none := []api.Plan{{}, {Points: []api.Point{}, Edges: []api.Edge{}}, made(t)}
	for _, a := range none {
		for _, b := range none {
			if !split.Same(a, b) { // nil and empty mean the same
				t.Error(a, b)
			}
		}
	}
	a, b := api.Plan{Edges: []api.Edge{{}}}, api.Plan{Edges: []api.Edge{{IDs: []int64{}}}}
	if !split.Same(a, b) || !split.Same(b, a) {
		t.Error("of no objects")
	}
}

func TestAnswersAreNewMemory(t *testing.T) {
	l := []api.Curve{curve(1, 0, 0, 2, 0), curve(2, 3, 0, 1, 0), curve(3, 1, 0, 1, 5), curve(4, 7, 7, 8, 8)}
	wanted := planOf(l)
	p := made(t, l...)
	for i := range p.Edges { // no two lists share any, nor the room behind them
		p.Edges[i].IDs = append(p.Edges[i].IDs, 99)
	}
	for i := range p.Edges {
		p.Edges[i].IDs = p.Edges[i].IDs[:len(p.Edges[i].IDs)-1]
	}
	if told(p) != told(wanted) {
		t.Error(told(p))
	}
	around, _ := split.Around(p, 1)
	clear(around)
	parts := slices.Collect(split.Parts(p))
	for i := range parts {
		parts[i] = append(parts[i], 99)
	}
	if !sameLists(parts, [][]int{{0, 1, 2, 3, 4, 99}, {5, 6, 99}}) || told(p) != told(wanted) {
		t.Error(parts, told(p))
	}
	for _, e := range p.Edges {
		clear(e.IDs)
	}
	clear(p.Points)
	clear(p.Edges)
	if got := made(t, l...); told(got) != told(wanted) {
		t.Error(told(got))
	}
}

func TestSpareRoomIsLeft(t *testing.T) {
	room := []api.Curve{curve(9, 0, 0, 2, 2), curve(1, 0, 2, 2, 0), curve(5, 0, 1, 2, 1)}
	kept := slices.Clone(room)
	p := made(t, room[:2]...)
	if !slices.Equal(room, kept) {
		t.Error("what was handed in is changed", room)
	}
	points, edges := slices.Clone(p.Points), told(p)
	part := api.Plan{Points: p.Points[:3], Edges: p.Edges[:2]}
	split.Find(part, at("1 1"))
	split.Around(part, 2)
	for range split.Parts(part) {
	}
	if !slices.Equal(p.Points, points) || told(p) != edges {
		t.Error("what was handed in is changed", told(p))
	}
}

// noPlans are such as Split makes none of.
func noPlans(t *testing.T) []api.Plan {
	fit := made(t, curve(1, 0, 0, 2, 2), curve(2, 0, 2, 2, 0))
	turned := slices.Clone(fit.Points)
	slices.Reverse(turned)
	var edges []api.Edge
	for _, a := range []int{0, 1, 2, -1, 3, 5, math.MaxInt, math.MinInt} {
		for _, b := range []int{0, 2, -1, 4, 5, math.MinInt, math.MaxInt} {
			edges = append(edges, api.Edge{A: a, B: b, Way: api.Way{X: int64(b), Y: math.MinInt64 + int64(a)}})
		}
	}
	return []api.Plan{
		{Points: misfits()}, {Points: turned}, {Edges: fit.Edges}, {Points: misfits(), Edges: fit.Edges}, {Points: fit.Points[:2], Edges: fit.Edges},
		{Points: fit.Points, Edges: edges}, {Points: turned[:3], Edges: edges}, {Edges: edges}, {Points: make([]api.Point, 9), Edges: make([]api.Edge, 99)},
	}
}

func TestOfNoPlansToo(t *testing.T) {
	for _, p := range noPlans(t) {
		for _, at := range append(misfits(), p.Points...) {
			if i, is := split.Find(p, at); is && p.Points[i] != at || !is && i != 0 {
				t.Error(at, i, is)
			}
		}
		for i := range len(p.Points) + 2 {
			there := i < len(p.Points)
			n, e := split.Degree(p, i)
			l, f := split.Around(p, i)
			if (e == api.OK) != there || (f == api.OK) != there || n != len(l) {
				t.Error(i, n, e, l, f)
			}
		}
		var all []int
		for part := range split.Parts(p) {
			all = append(all, part...)
		}
		slices.Sort(all)
		if len(all) != len(p.Points) || len(slices.Compact(all)) != len(p.Points) {
			t.Error(all)
		}
		if !split.Same(p, p) {
			t.Error(p)
		}
	}
}
