package check_test

import (
	"math"
	"slices"
	"testing"

	"merestone/api"
	"merestone/check"
	"merestone/dcel"
	"merestone/faces"
	"merestone/split"
)

func TestTell(t *testing.T) {
	for k, want := range map[api.FlawKind]string{
		api.FlawNone: "none", api.FlawPoint: "point", api.FlawEdge: "edge", api.FlawRound: "round", api.FlawMesh: "mesh", api.FlawFaces: "faces",
		-1: "", 6: "", 9: "", 256: "", 1 << 32: "", math.MaxInt: "", math.MinInt: "",
	} {
		if got := check.Tell(k); got != want {
			t.Error(k, got)
		}
	}
	for k, want := range []api.FlawKind{api.FlawNone, api.FlawPoint, api.FlawEdge, api.FlawRound, api.FlawMesh, api.FlawFaces} {
		if api.FlawKind(k) != want {
			t.Error(k, want)
		}
	}
}

func TestOf(t *testing.T) {
	lists(240, 9, func(l []api.Curve) {
		s, e := check.Of(l...)
		p, f := split.Split(l...)
		m := dcel.Build(p)
		if e != api.OK || f != api.OK || !same(s, api.Structure{Plan: p, Mesh: m, Faces: faces.Build(p, m)}) {
			t.Fatal(l, s, e, f)
		}
	})
}

func TestOfWhatMayNotBe(t *testing.T) {
	fit := curve(1, 0, 0, 2, 0)
	many := func(n int) []api.Curve { return slices.Repeat([]api.Curve{fit}, n) }
	for _, c := range []struct {
		what string
		l    []api.Curve
		want api.Errno
	}{
		{"none", nil, api.OK}, {"at the bounds", []api.Curve{curve(math.MaxInt32, -most, -most, most, most), curve(1, most, -most, -most, most)}, api.OK},
		{"both ends one", []api.Curve{fit, curve(1, 3, 3, 3, 3)}, api.ErrArg}, {"zero", []api.Curve{{}}, api.ErrArg},
		{"an X past the bound", []api.Curve{curve(1, most+1, 0, 0, 0)}, api.ErrArg}, {"a Y past the bound", []api.Curve{curve(1, 0, 0, 0, -most-1), fit}, api.ErrArg},
		{"huge", []api.Curve{curve(1, math.MinInt64, 0, math.MaxInt64, 0)}, api.ErrArg},
		{"ID 0", []api.Curve{curve(0, 0, 0, 1, 0)}, api.ErrArg}, {"ID below 0", []api.Curve{curve(-1, 0, 0, 1, 0)}, api.ErrArg}, {"ID past the bound", []api.Curve{curve(1<<31, 0, 0, 1, 0)}, api.ErrArg},
		{"as many as may be", many(api.MaxCorners), api.OK}, {"one more", many(api.MaxCorners + 1), api.ErrLong},
		{"too many, and one that may not be behind", append(many(api.MaxCorners+1), curve(1, 0, 0, 0, 0)), api.ErrArg}, {"and ahead", append([]api.Curve{curve(0, 0, 0, 1, 0)}, many(api.MaxCorners)...), api.ErrArg},
	} {
		s, e := check.Of(c.l...)
		if e != c.want || e != api.OK && !same(s, api.Structure{}) {
			t.Error(c.what, s, e)
		}
		if e == api.OK && check.Flaw(s) != api.FlawNone {
			t.Error(c.what, check.Flaw(s))
		}
	}
}

// house is the structure on which flaws are shown: a square that another one crosses, one within that, and a segment
// beside, of two objects. Its edge 0 goes upwards, from the point 0.
func house(t *testing.T) api.Structure {
	return made(t, slices.Concat(square(1, 0, 0, 8), square(2, 4, 4, 8), square(2, 1, 1, 2), []api.Curve{curve(3, 20, 20, 31, 22), curve(1, 0, 0, 8, 0)})...)
}

func TestFlawRows(t *testing.T) {
	plan := func(do func(p *api.Plan)) func(s *api.Structure) {
		return func(s *api.Structure) {
			do(&s.Plan)
			*s = rebuilt(s.Plan)
		}
	}
	edge := func(do func(e *api.Edge)) func(s *api.Structure) {
		return plan(func(p *api.Plan) { do(&p.Edges[0]) })
	}
	for _, c := range []struct {
		what string
		do   func(s *api.Structure)
		want api.FlawKind
	}{
		{"as it was", func(s *api.Structure) {}, api.FlawNone},
		{"two points are one", plan(func(p *api.Plan) { p.Points[1] = p.Points[0] }), api.FlawPoint},
		{"a point twice", plan(func(p *api.Plan) { p.Points = append(p.Points, p.Points[len(p.Points)-1]) }), api.FlawPoint},
		{"points turned", plan(func(p *api.Plan) { slices.Reverse(p.Points) }), api.FlawPoint},
		{"of one X the upper one ahead", plan(func(p *api.Plan) { p.Points[0], p.Points[1] = p.Points[1], p.Points[0] }), api.FlawPoint},
		{"the last one may not be", plan(func(p *api.Plan) { p.Points[len(p.Points)-1].Y = api.Rat{} }), api.FlawPoint},
		{"A below 0", edge(func(e *api.Edge) { e.A = -1 }), api.FlawEdge}, {"A far below 0", edge(func(e *api.Edge) { e.A = math.MinInt }), api.FlawEdge},
		{"A is B", edge(func(e *api.Edge) { e.A = e.B }), api.FlawEdge}, {"A above B", edge(func(e *api.Edge) { e.A, e.B = e.B, e.A }), api.FlawEdge},
		{"and its way turned", edge(func(e *api.Edge) { e.A, e.B, e.Way = e.B, e.A, api.Way{X: -e.Way.X, Y: -e.Way.Y} }), api.FlawEdge},
		{"B is no place", edge(func(e *api.Edge) { e.B = math.MaxInt }), api.FlawEdge},
		{"B is one past the last", plan(func(p *api.Plan) { p.Edges[len(p.Edges)-1].B = len(p.Points) }), api.FlawEdge},
		{"no way", edge(func(e *api.Edge) { e.Way = api.Way{} }), api.FlawEdge}, {"a way too far", edge(func(e *api.Edge) { e.Way.Y = 1<<27 + 1 }), api.FlawEdge},
		{"a way far too far", edge(func(e *api.Edge) { e.Way = api.Way{X: math.MinInt64, Y: math.MinInt64} }), api.FlawEdge},
		{"a way with a common divisor", edge(func(e *api.Edge) { e.Way.Y = 2 }), api.FlawEdge}, {"back", edge(func(e *api.Edge) { e.Way.Y = -1 }), api.FlawEdge},
		{"back, with a common divisor", edge(func(e *api.Edge) { e.Way.Y = -8 }), api.FlawEdge},
		{"another way", edge(func(e *api.Edge) { e.Way = api.Way{X: 1} }), api.FlawEdge}, {"a way hardly beside", edge(func(e *api.Edge) { e.Way = api.Way{X: 1, Y: 1 << 27} }), api.FlawEdge},
		{"no IDs", edge(func(e *api.Edge) { e.IDs = nil }), api.FlawEdge}, {"empty IDs", edge(func(e *api.Edge) { e.IDs = []int64{} }), api.FlawEdge},
		{"the ID 0", edge(func(e *api.Edge) { e.IDs = []int64{0, 1} }), api.FlawEdge}, {"an ID below 0", edge(func(e *api.Edge) { e.IDs[0] = math.MinInt64 }), api.FlawEdge},
		{"an ID past the bound", edge(func(e *api.Edge) { e.IDs = []int64{1, 1 << 31} }), api.FlawEdge}, {"an ID at the bound", edge(func(e *api.Edge) { e.IDs = []int64{1, 1<<31 - 1} }), api.FlawNone},
		{"IDs fall", edge(func(e *api.Edge) { e.IDs = []int64{1, 3, 2, 4} }), api.FlawEdge}, {"IDs stay", edge(func(e *api.Edge) { e.IDs = []int64{2, 2, 2} }), api.FlawNone},
		{"an ID within is huge", edge(func(e *api.Edge) { e.IDs = []int64{1, math.MaxInt64, 2} }), api.FlawEdge},
		{"an edge twice", plan(func(p *api.Plan) { p.Edges = slices.Insert(p.Edges, 1, p.Edges[0]) }), api.FlawEdge},
		{"of one A the greater B ahead", plan(func(p *api.Plan) { p.Edges[0], p.Edges[1] = p.Edges[1], p.Edges[0] }), api.FlawEdge},
		{"edges turned", plan(func(p *api.Plan) { slices.Reverse(p.Edges) }), api.FlawEdge},
		{"no edges", plan(func(p *api.Plan) { p.Edges = nil }), api.FlawRound}, {"no points", plan(func(p *api.Plan) { p.Points = nil }), api.FlawEdge},
		{"the last edge away", plan(func(p *api.Plan) { p.Edges = p.Edges[:len(p.Edges)-1] }), api.FlawRound},
		{"the first edge away", plan(func(p *api.Plan) { p.Edges = p.Edges[1:] }), api.FlawNone}, // each of its points is an end of another one
		{"nothing in the plan", plan(func(p *api.Plan) { *p = api.Plan{} }), api.FlawNone},
		{"zero", func(s *api.Structure) { *s = api.Structure{} }, api.FlawFaces},
		{"no plan", func(s *api.Structure) { s.Plan = api.Plan{} }, api.FlawMesh},
		{"another plan", func(s *api.Structure) { s.Plan = made(t, curve(1, 0, 0, 1, 0)).Plan }, api.FlawMesh},
		{"no mesh", func(s *api.Structure) { s.Mesh = api.Mesh{} }, api.FlawMesh}, {"another mesh", func(s *api.Structure) { s.Mesh = made(t, curve(1, 0, 0, 1, 0)).Mesh }, api.FlawMesh},
		{"From is longer", func(s *api.Structure) { s.Mesh.From = append(s.Mesh.From, 0) }, api.FlawMesh}, {"Next is shorter", func(s *api.Structure) { s.Mesh.Next = s.Mesh.Next[1:] }, api.FlawMesh},
		{"no Cycle", func(s *api.Structure) { s.Mesh.Cycle = nil }, api.FlawMesh}, {"Outside is longer", func(s *api.Structure) { s.Mesh.Outside = append(s.Mesh.Outside, true) }, api.FlawMesh},
		{"outside is within", func(s *api.Structure) { s.Mesh.Outside[0] = false }, api.FlawMesh},
		{"no faces", func(s *api.Structure) { s.Faces = api.Faces{} }, api.FlawFaces}, {"other faces", func(s *api.Structure) { s.Faces = made(t, curve(1, 0, 0, 1, 0)).Faces }, api.FlawFaces},
		{"Border is longer", func(s *api.Structure) { s.Faces.Border = append(s.Faces.Border, -1) }, api.FlawFaces}, {"Of is shorter", func(s *api.Structure) { s.Faces.Of = s.Faces.Of[1:] }, api.FlawFaces},
		{"no Holes", func(s *api.Structure) { s.Faces.Holes = nil }, api.FlawFaces}, {"a list of holes more", func(s *api.Structure) { s.Faces.Holes = append(s.Faces.Holes, nil) }, api.FlawFaces},
		{"a hole twice", func(s *api.Structure) { s.Faces.Holes[0] = append(s.Faces.Holes[0], s.Faces.Holes[0][0]) }, api.FlawFaces},
		{"holes turned", func(s *api.Structure) { slices.Reverse(s.Faces.Holes[0]) }, api.FlawFaces}, {"a hole of another face", func(s *api.Structure) { slices.Reverse(s.Faces.Holes) }, api.FlawFaces},
		{"empty for nil", func(s *api.Structure) {
			for i, l := range s.Faces.Holes {
				s.Faces.Holes[i] = append([]int{}, l...)
			}
		}, api.FlawNone},
	} {
		s := house(t)
		c.do(&s)
		if got := check.Flaw(s); got != c.want || got != flawOf(s) {
			t.Error(c.what, got, flawOf(s))
		}
	}
}

func TestFlawOfNothing(t *testing.T) {
	for _, s := range []api.Structure{
		made(t), {Faces: api.Faces{Border: []int{-1}, Holes: [][]int{nil}}}, {Faces: api.Faces{Border: []int{-1}, Holes: [][]int{{}}, Of: []int{}}},
		{Plan: api.Plan{Points: []api.Point{}, Edges: []api.Edge{}}, Mesh: api.Mesh{From: []int{}, Next: []int{}, Cycle: []int{}, Outside: []bool{}}, Faces: api.Faces{Border: []int{-1}, Holes: [][]int{nil}}},
	} {
		a, b, c, d, f := check.Counts(s)
		if k := check.Flaw(s); k != api.FlawNone || a+b+c != 0 || d != 1 || f != 0 || !check.Euler(s) {
			t.Error(s, k, a, b, c, d, f)
		}
	}
}

func TestFlawOfWaysThatAreOne(t *testing.T) {
	three := []api.Point{spot("0 0"), spot("1 0"), spot("2 0")}
	flat := func(a, b int) api.Edge { return api.Edge{A: a, B: b, Way: api.Way{X: 1}, IDs: []int64{1}} }
	cross := made(t, curve(1, 0, 0, 2, 2), curve(2, 0, 2, 2, 0)).Plan
	for _, c := range []struct {
		what string
		p    api.Plan
		want api.FlawKind
	}{
		{"one behind another", api.Plan{Points: three, Edges: []api.Edge{flat(0, 1), flat(1, 2)}}, api.FlawNone},
		{"one over a point", api.Plan{Points: slices.Concat(three[:1], three[2:]), Edges: []api.Edge{flat(0, 1)}}, api.FlawNone},
		{"a point on it", api.Plan{Points: three, Edges: []api.Edge{flat(0, 2)}}, api.FlawRound},
		{"from one point to two", api.Plan{Points: three, Edges: []api.Edge{flat(0, 1), flat(0, 2)}}, api.FlawRound},
		{"from two points to one", api.Plan{Points: three, Edges: []api.Edge{flat(0, 2), flat(1, 2)}}, api.FlawRound},
		{"all", api.Plan{Points: three, Edges: []api.Edge{flat(0, 1), flat(0, 2), flat(1, 2)}}, api.FlawRound},
		{"a point beside", api.Plan{Points: slices.Concat(three, []api.Point{spot("9 9")}), Edges: []api.Edge{flat(0, 1), flat(1, 2)}}, api.FlawRound},
		{"a point alone", api.Plan{Points: three[:1]}, api.FlawRound},
		{"across, with the point between", cross, api.FlawNone},
		{"without that", api.Plan{Points: slices.Concat(cross.Points[:2], cross.Points[3:]), Edges: []api.Edge{ // which edges cross is not looked at
			{A: 0, B: 3, Way: api.Way{X: 1, Y: 1}, IDs: []int64{1}}, {A: 1, B: 2, Way: api.Way{X: 1, Y: -1}, IDs: []int64{2}}}}, api.FlawNone},
	} {
		if got := check.Flaw(rebuilt(c.p)); got != c.want {
			t.Error(c.what, got)
		}
	}
}

func TestFlawIsTheFirst(t *testing.T) {
	spoil := []func(s *api.Structure){
		func(s *api.Structure) { s.Plan.Points[3].X.D = api.Int{} },
		func(s *api.Structure) { s.Plan.Edges[2].IDs = nil },
		func(s *api.Structure) { s.Plan.Points = append(s.Plan.Points, spot("999 0")) },
		func(s *api.Structure) { s.Mesh.Next[3]++ },
		func(s *api.Structure) { s.Faces.Of[1]++ },
	}
	for some := range 1 << len(spoil) {
		s := house(t)
		want := api.FlawNone
		for i, do := range spoil {
			if some>>i&1 == 1 {
				do(&s)
				if want == api.FlawNone {
					want = api.FlawKind(1 + i)
				}
			}
		}
		if got := check.Flaw(s); got != want || check.Tell(got) != []string{"none", "point", "edge", "round", "mesh", "faces"}[want] {
			t.Error(some, got, want)
		}
		a, b, c, d, f := check.Counts(s)
		if is := want == api.FlawNone; check.Euler(s) != is || (a+b+c+d+f != 0) != is {
			t.Error(some, a, b, c, d, f)
		}
	}
}

func TestCounts(t *testing.T) {
	for _, c := range []struct {
		what string
		l    []api.Curve
		want [5]int
	}{
		{"nothing", nil, [5]int{0, 0, 0, 1, 0}},
		{"a segment", []api.Curve{curve(1, 0, 0, 2, 0)}, [5]int{2, 1, 1, 1, 1}},
		{"twice", []api.Curve{curve(1, 0, 0, 2, 0), curve(2, 2, 0, 0, 0)}, [5]int{2, 1, 1, 1, 1}},
		{"across", []api.Curve{curve(1, 0, 0, 2, 2), curve(2, 0, 2, 2, 0)}, [5]int{5, 4, 1, 1, 1}},
		{"apart", []api.Curve{curve(1, 0, 0, 2, 0), curve(2, 0, 2, 2, 2)}, [5]int{4, 2, 2, 1, 2}},
		{"a square", square(1, 0, 0, 4), [5]int{4, 4, 2, 2, 1}},
		{"a segment within", slices.Concat(square(1, 0, 0, 4), []api.Curve{curve(2, 1, 1, 2, 1)}), [5]int{6, 5, 3, 2, 2}},
		{"a square within", slices.Concat(square(1, 0, 0, 4), square(1, 1, 1, 2)), [5]int{8, 8, 4, 3, 2}},
		{"two that cross", slices.Concat(square(1, 0, 0, 4), square(1, 2, 2, 4)), [5]int{10, 12, 4, 4, 1}},
		{"corner at corner", slices.Concat(square(1, 0, 0, 2), square(1, 2, 2, 2)), [5]int{7, 8, 3, 3, 1}},
		{"house", slices.Concat(square(1, 0, 0, 8), square(2, 4, 4, 8), square(2, 1, 1, 2), []api.Curve{curve(3, 20, 20, 31, 22)}), [5]int{16, 17, 7, 5, 3}},
	} {
		s := made(t, c.l...)
		var got [5]int
		got[0], got[1], got[2], got[3], got[4] = check.Counts(s)
		if got != c.want || !check.Euler(s) {
			t.Error(c.what, got)
		}
	}
}

func TestEulerOfEdgesThatAreNotCut(t *testing.T) {
	corners := []api.Point{spot("0 0"), spot("0 2"), spot("2 0"), spot("2 2")}
	edges := []api.Edge{
		{A: 0, B: 1, Way: api.Way{Y: 1}, IDs: []int64{1}}, {A: 0, B: 2, Way: api.Way{X: 1}, IDs: []int64{1}}, {A: 0, B: 3, Way: api.Way{X: 1, Y: 1}, IDs: []int64{1}},
		{A: 1, B: 2, Way: api.Way{X: 1, Y: -1}, IDs: []int64{1}}, {A: 1, B: 3, Way: api.Way{X: 1}, IDs: []int64{1}}, {A: 2, B: 3, Way: api.Way{Y: 1}, IDs: []int64{1}},
	}
	s := rebuilt(api.Plan{Points: corners, Edges: edges}) // a square with both diagonals: 4 points, 6 edges, 1 part, and one cycle within beside that outside
	a, b, c, d, f := check.Counts(s)
	if k := check.Flaw(s); k != api.FlawNone || check.Euler(s) || [5]int{a, b, c, d, f} != [5]int{4, 6, 2, 2, 1} {
		t.Error(k, a, b, c, d, f)
	}
	if s := rebuilt(api.Plan{Points: corners, Edges: slices.Delete(slices.Clone(edges), 2, 3)}); check.Flaw(s) != api.FlawNone || !check.Euler(s) {
		t.Error("with one diagonal", s)
	}
}

func TestAsManyAsMayBe(t *testing.T) {
	var net, nested, star []api.Curve
	for i := range int64(api.MaxCorners / 2) {
		net = append(net, curve(1, -1, i, 256, i), curve(2, i, 256, i, -1))
	}
	for i := range int64(api.MaxCorners / 4) {
		nested = append(nested, square(1, i, i, 1000-2*i)...)
	}
	for i := range int64(api.MaxCorners) {
		star = append(star, curve(1+i, -most, i-256, most, 256-i))
	}
	for _, c := range []struct {
		l    []api.Curve
		want [5]int
	}{
		{net, [5]int{256*256 + 4*256, 2 * 256 * 257, 1 + 255*255, 1 + 255*255, 1}},
		{nested, [5]int{512, 512, 256, 129, 128}},
		{star, [5]int{1025, 1024, 1, 1, 1}},
	} {
		s := made(t, c.l...)
		var got [5]int
		got[0], got[1], got[2], got[3], got[4] = check.Counts(s)
		if got != c.want || !check.Euler(s) || check.Flaw(s) != api.FlawNone {
			t.Error(got, c.want)
		}
		last := &s.Plan.Edges[len(s.Plan.Edges)-1]
		last.Way.X, last.Way.Y = last.Way.X+1, last.Way.Y+1
		if k := check.Flaw(s); k != api.FlawEdge || check.Euler(s) {
			t.Error(k)
		}
	}
}

func TestWhatIsHandedInStaysAndAnswersAreNewMemory(t *testing.T) {
	room := append(slices.Concat(square(1, 0, 0, 8), square(2, 4, 4, 8), square(2, 1, 1, 2)), curve(9, 9, 9, 9, 9))
	l := room[:len(room)-1]
	kept := slices.Clone(room)
	s, other := made(t, l...), made(t, l...)
	wanted := copied(s)
	check.Flaw(s)
	check.Counts(s)
	check.Euler(s)
	if !same(s, wanted) || !slices.Equal(room, kept) {
		t.Error("what was handed in is changed", s, room)
	}
	lists := append([][]int{s.Mesh.From, s.Mesh.Next, s.Mesh.Cycle, s.Faces.Border, s.Faces.Of}, s.Faces.Holes...)
	for i, own := range lists {
		_ = append(own, 7, 7, 7)
		for at := range own {
			own[at] = 1000 + i
		}
	}
	for i, own := range lists { // no two lists share any
		if slices.ContainsFunc(own, func(n int) bool { return n != 1000+i }) {
			t.Error(i, own)
		}
	}
	for k, e := range s.Plan.Edges {
		_ = append(e.IDs, 7, 7, 7)
		for at := range e.IDs {
			e.IDs[at] = int64(k)
		}
	}
	for k, e := range s.Plan.Edges {
		if slices.ContainsFunc(e.IDs, func(id int64) bool { return id != int64(k) }) {
			t.Error(k, e)
		}
	}
	clear(s.Mesh.Outside)
	clear(s.Plan.Points)
	clear(l)
	if !same(other, wanted) || !same(made(t, kept[:len(l)]...), wanted) {
		t.Error("not the same again")
	}
}

func TestFlawLeavesTheRoomBehindWhatIsHandedIn(t *testing.T) {
	s := house(t)
	behind := func(l []int) []int { return append(slices.Clone(l), -7, -7, -7)[:len(l)] }
	s.Mesh.From, s.Mesh.Next, s.Mesh.Cycle, s.Faces.Border, s.Faces.Of = behind(s.Mesh.From), behind(s.Mesh.Next), behind(s.Mesh.Cycle), behind(s.Faces.Border), behind(s.Faces.Of)
	for i, holes := range s.Faces.Holes {
		s.Faces.Holes[i] = behind(holes)
	}
	for k, e := range s.Plan.Edges {
		s.Plan.Edges[k].IDs = append(slices.Clone(e.IDs), -7, -7, -7)[:len(e.IDs)]
	}
	if check.Flaw(s) != api.FlawNone || !check.Euler(s) {
		t.Error(s)
	}
	for i, l := range append([][]int{s.Mesh.From, s.Mesh.Next, s.Mesh.Cycle, s.Faces.Border, s.Faces.Of}, s.Faces.Holes...) {
		if got := l[len(l) : len(l)+3]; !slices.Equal(got, []int{-7, -7, -7}) {
			t.Error(i, got)
		}
	}
	for k, e := range s.Plan.Edges {
		if got := e.IDs[len(e.IDs) : len(e.IDs)+3]; !slices.Equal(got, []int64{-7, -7, -7}) {
			t.Error(k, got)
		}
	}
}
