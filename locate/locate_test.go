package locate_test

import (
	"slices"
	"testing"

	"merestone/api"
	"merestone/locate"
	"merestone/point"
)

// at is a place.
func at(kind api.PlaceKind, i int) api.Place {
	return api.Place{Kind: kind, At: i}
}

func TestKinds(t *testing.T) {
	if api.AtNone != 0 || api.AtPoint != 1 || api.AtEdge != 2 || api.AtFace != 3 {
		t.Error(api.AtNone, api.AtPoint, api.AtEdge, api.AtFace)
	}
}

func TestWhere(t *testing.T) {
	below := dice(7)
	went := map[api.PlaceKind]int{}
	var outside, deep int
	drawings(90, func(l []api.Curve) {
		s := made(t, l...)
		d := drawn(s)
		for _, p := range d.asked(below) {
			wanted := d.where(pairOf(p))
			if x, e := locate.Where(s, p); x != wanted || e != api.OK {
				t.Fatal(l, p, x, e, wanted)
			}
			went[wanted.Kind]++
			if wanted == at(api.AtFace, 0) {
				outside++
			}
			if wanted.Kind == api.AtFace && wanted.At > 0 && len(s.Faces.Holes[wanted.At]) > 0 {
				deep++
			}
		}
	})
	if min(went[api.AtPoint], went[api.AtEdge], went[api.AtFace]-outside, outside) < 999 || deep < 99 || len(went) != 3 {
		t.Error("not all are there", went, outside, deep)
	}
}

// triangle is that of the document's examples: points 0 0, 0 4, 4 0; edges 0-1, 0-2, 1-2.
func triangle() []api.Curve {
	return []api.Curve{curve(1, 0, 0, 4, 0), curve(2, 4, 0, 0, 4), curve(3, 0, 4, 0, 0)}
}

// nest is three squares, each within the one ahead, and a segment in the least: 24 half edges of squares, 2 of it.
func nest() []api.Curve {
	return slices.Concat(square(1, 0, 0, 12), square(2, 2, 2, 8), square(3, 4, 4, 4), []api.Curve{curve(4, 5, 6, 7, 6)})
}

func TestWhereRows(t *testing.T) {
	cross := []api.Curve{curve(1, 0, 0, 3, 1), curve(2, 0, 1, 3, 0)}   // points 0 0, 0 1, 3/2 1/2, 3 0, 3 1; edges 0-2, 1-2, 2-3, 2-4
	upright := []api.Curve{curve(1, 0, 0, 0, 4), curve(2, 0, 6, 0, 9)} // points 0 0, 0 4, 0 6, 0 9
	bow := slices.Concat(along(1, [2]int64{-4, -2}, [2]int64{0, 0}, [2]int64{-4, 2}), along(2, [2]int64{4, -2}, [2]int64{4, 2}, [2]int64{0, 0}))
	roof := slices.Concat(along(1, [2]int64{-4, -9}, [2]int64{0, 0}, [2]int64{-4, -1}), along(2, [2]int64{-9, 3}, [2]int64{9, 3}, [2]int64{9, 5}, [2]int64{-9, 5}), []api.Curve{curve(3, -4, 1, 0, 0)})
	bound := along(1, [2]int64{-most, -most}, [2]int64{most, -most}, [2]int64{most, most}, [2]int64{-most, most})
	slender := along(1, [2]int64{-most, -most}, [2]int64{most, most}, [2]int64{most, most - 1})
	for _, c := range []struct {
		what string
		l    []api.Curve
		at   string
		want api.Place
	}{
		{"of nothing", nil, "0 0", at(api.AtFace, 0)},
		{"of nothing, far off", nil, far + " -" + far, at(api.AtFace, 0)},
		{"within", triangle(), "1 1", at(api.AtFace, 1)},
		{"on the third", triangle(), "2 2", at(api.AtEdge, 2)},
		{"on the upright one", triangle(), "0 1/3", at(api.AtEdge, 0)},
		{"on the level one", triangle(), "7/2 0", at(api.AtEdge, 1)},
		{"at the first corner", triangle(), "0 0", at(api.AtPoint, 0)},
		{"at the second", triangle(), "0 4", at(api.AtPoint, 1)},
		{"at the third", triangle(), "4 0", at(api.AtPoint, 2)},
		{"apart", triangle(), "9 9", at(api.AtFace, 0)},
		{"below", triangle(), "1 -1", at(api.AtFace, 0)},
		{"above", triangle(), "1 4", at(api.AtFace, 0)},
		{"to the left", triangle(), "-1 1", at(api.AtFace, 0)},
		{"to the right", triangle(), "5 1", at(api.AtFace, 0)},
		{"straight above a corner", triangle(), "0 5", at(api.AtFace, 0)},
		{"straight below one", triangle(), "0 -1", at(api.AtFace, 0)},
		{"straight above the right one", triangle(), "4 1", at(api.AtFace, 0)},
		{"past the level one's end", triangle(), "5 0", at(api.AtFace, 0)},
		{"ahead of its beginning", triangle(), "-1 0", at(api.AtFace, 0)},
		{"past the third's end", triangle(), "5 -1", at(api.AtFace, 0)},
		{"ahead of its beginning", triangle(), "-1 5", at(api.AtFace, 0)},
		{"close within", triangle(), little + " " + little, at(api.AtFace, 1)},
		{"close to the left", triangle(), "-" + little + " 1", at(api.AtFace, 0)},
		{"close to its right", triangle(), little + " 1", at(api.AtFace, 1)},
		{"close below", triangle(), "1 -" + little, at(api.AtFace, 0)},
		{"close above that", triangle(), "1 " + little, at(api.AtFace, 1)},
		{"close behind the third", triangle(), "2 36893488147419103231/18446744073709551615", at(api.AtFace, 0)},
		{"close ahead of the third", triangle(), "2 36893488147419103229/18446744073709551615", at(api.AtFace, 1)},
		{"close beside a corner, on its edge", triangle(), little + " 0", at(api.AtEdge, 1)},
		{"far above", triangle(), "1 " + far, at(api.AtFace, 0)},
		{"far below", triangle(), "1 -" + far, at(api.AtFace, 0)},
		{"far to the right", triangle(), far + " 1", at(api.AtFace, 0)},
		{"far to the left", triangle(), "-" + far + " 0", at(api.AtFace, 0)},
		{"where they cross", cross, "3/2 1/2", at(api.AtPoint, 2)},
		{"on one that is cut", cross, "1 1/3", at(api.AtEdge, 0)},
		{"on the other one", cross, "1 2/3", at(api.AtEdge, 1)},
		{"behind the cut, below", cross, "2 1/3", at(api.AtEdge, 2)},
		{"behind it, above", cross, "2 2/3", at(api.AtEdge, 3)},
		{"close beside where they cross", cross, "3/2 9223372036854775807/18446744073709551615", at(api.AtFace, 0)},
		{"between the ends of both", cross, "0 1/2", at(api.AtFace, 0)},
		{"on the lower one upright", upright, "0 2", at(api.AtEdge, 0)},
		{"between two upright", upright, "0 5", at(api.AtFace, 0)},
		{"on the upper one upright", upright, "0 7", at(api.AtEdge, 1)},
		{"above them", upright, "0 10", at(api.AtFace, 0)},
		{"beside them", upright, "1 2", at(api.AtFace, 0)},
		{"where both halves of a bow meet", bow, "0 0", at(api.AtPoint, 2)},
		{"in its left half", bow, "-1 1/4", at(api.AtFace, 1)},
		{"in its right half", bow, "1 1/4", at(api.AtFace, 2)},
		{"above where they meet", bow, "0 1", at(api.AtFace, 0)},
		{"below where they meet", bow, "0 -1", at(api.AtFace, 0)},
		{"above where several end, the least slope of which is of no border", roof, "0 1", at(api.AtFace, 0)},
		{"in what is over it", roof, "0 4", at(api.AtFace, 1)},
		{"outside all", nest(), "-1 6", at(api.AtFace, 0)},
		{"on the first", nest(), "0 6", at(api.AtEdge, 0)},
		{"in the first", nest(), "1 6", at(api.AtFace, 1)},
		{"in the first, above the hole", nest(), "6 11", at(api.AtFace, 1)},
		{"in the first, below the hole", nest(), "6 1", at(api.AtFace, 1)},
		{"in the first, right of the hole", nest(), "11 6", at(api.AtFace, 1)},
		{"in the first, straight above the hole's side", nest(), "10 11", at(api.AtFace, 1)},
		{"in the second", nest(), "3 6", at(api.AtFace, 2)},
		{"in the third, above the segment", nest(), "6 7", at(api.AtFace, 3)},
		{"in the third, below the segment", nest(), "6 5", at(api.AtFace, 3)},
		{"at the bound, within", bound, "0 0", at(api.AtFace, 1)},
		{"at the bound, on its side", bound, "67108864 0", at(api.AtEdge, 3)},
		{"at the bound, at its corner", bound, "67108864 67108864", at(api.AtPoint, 3)},
		{"at the bound, close within", bound, "1237940039285380274832015359/18446744073709551615 0", at(api.AtFace, 1)},
		{"at the bound, close outside", bound, "1237940039285380274832015361/18446744073709551615 0", at(api.AtFace, 0)},
		{"close under a slender one", slender, "67108863 67108862", at(api.AtFace, 0)},
		{"on its lower side", slender, "0 -1/2", at(api.AtEdge, 0)},
		{"on its upper side", slender, "67108863 67108863", at(api.AtEdge, 1)},
		{"between both", slender, "67108863 134217725/2", at(api.AtFace, 1)},
		{"on its third", slender, "67108864 134217727/2", at(api.AtEdge, 2)},
	} {
		s := made(t, c.l...)
		if x, e := locate.Where(s, spot(c.at)); x != c.want || e != api.OK {
			t.Error(c.what, x, e, s.Plan)
		}
	}
}

func TestWrongPoints(t *testing.T) {
	for _, s := range []api.Structure{{}, made(t), made(t, nest()...)} {
		for _, p := range wrongPoints() {
			if x, e := locate.Where(s, p); x != (api.Place{}) || e != api.ErrArg {
				t.Error(p, x, e)
			}
			for q, x := range locate.Places(s, p, spot("0 0")) {
				t.Error(p, q, x)
			}
		}
	}
}

// A told is a point with its place.
type told struct {
	p api.Point
	x api.Place
}

// all is what Places goes over.
func all(s api.Structure, l ...api.Point) []told {
	var all []told
	for p, x := range locate.Places(s, l...) {
		all = append(all, told{p, x})
	}
	return all
}

func TestPlaces(t *testing.T) {
	below := dice(11)
	wrong := wrongPoints()
	drawings(36, func(l []api.Curve) {
		s := made(t, l...)
		d := drawn(s)
		points := d.asked(below)
		slices.Reverse(points)
		points = append(points, points[:3]...) // some are there twice
		var wanted []told
		for _, p := range points {
			wanted = append(wanted, told{p, d.where(pairOf(p))})
		}
		if got := all(s, points...); !slices.Equal(got, wanted) {
			t.Fatal(l, got, wanted)
		}
		n := below(len(points) + 1)
		points = slices.Insert(points, n, wrong[below(len(wrong))])
		if got := all(s, points...); !slices.Equal(got, wanted[:n]) {
			t.Fatal(l, n, got, wanted)
		}
	})
	s := made(t, triangle()...)
	if got := all(s); len(got) > 0 {
		t.Error("of no points", got)
	}
	if got := all(s, spot("9 9"), spot("2 2"), spot("0 0"), spot("2 2"), spot("1 1")); !slices.Equal(got, []told{ // as they come, not by the points' order
		{spot("9 9"), at(api.AtFace, 0)}, {spot("2 2"), at(api.AtEdge, 2)}, {spot("0 0"), at(api.AtPoint, 0)}, {spot("2 2"), at(api.AtEdge, 2)}, {spot("1 1"), at(api.AtFace, 1)},
	}) {
		t.Error(got)
	}
}

func TestPlacesIsLeftAndGoneOverAgain(t *testing.T) {
	s := made(t, triangle()...)
	l := []api.Point{spot("1 1"), spot("2 2"), spot("0 0"), spot("9 9"), {}, spot("1 1")}
	wanted := all(s, l...)
	places := locate.Places(s, l...)
	clear(l) // what was handed in is not kept
	clear(s.Plan.Points)
	clear(s.Plan.Edges)
	clear(s.Mesh.Cycle)
	clear(s.Faces.Of)
	if len(wanted) != 4 {
		t.Fatal(wanted)
	}
	for n := range len(wanted) + 1 {
		var got []told
		for p, x := range places {
			if len(got) == n {
				break
			}
			got = append(got, told{p, x})
		}
		if !slices.Equal(got, wanted[:n]) {
			t.Error(n, got)
		}
	}
	rounds := 0
	for range places { // one within another
		rounds++
		var got []told
		for p, x := range places {
			got = append(got, told{p, x})
		}
		if !slices.Equal(got, wanted) {
			t.Error(got)
		}
	}
	if rounds != len(wanted) {
		t.Error(rounds)
	}
}

func TestThroughAndFaces(t *testing.T) {
	var ids, faces int
	drawings(120, func(l []api.Curve) {
		s := made(t, l...)
		d := drawn(s)
		for _, x := range d.places() {
			objects, e := locate.Through(s, x)
			if wanted := d.through(x); !slices.Equal(objects, wanted) || e != api.OK {
				t.Fatal(l, x, objects, e, wanted)
			}
			round, e := locate.Faces(s, x)
			if wanted := d.round(x); !slices.Equal(round, wanted) || e != api.OK {
				t.Fatal(l, x, round, e, wanted)
			}
			ids, faces = max(ids, len(objects)), max(faces, len(round))
		}
	})
	if ids < 3 || faces < 5 {
		t.Error("none has many", ids, faces)
	}
}

func TestThroughAndFacesRows(t *testing.T) {
	twice := slices.Concat(square(9, 0, 0, 4), square(2, 0, 0, 4), square(9, 0, 0, 4), square(5, 4, 0, 4), []api.Curve{curve(2, 1, 1, 2, 1), curve(1<<31-1, 1, 1, 2, 1)})
	for _, c := range []struct {
		what  string
		l     []api.Curve
		x     api.Place
		ids   []int64
		faces []int
	}{
		{"of nothing", nil, at(api.AtFace, 0), nil, []int{0}},
		{"the edge of 2", triangle(), at(api.AtEdge, 2), []int64{2}, []int{0, 1}},
		{"the edge of 3", triangle(), at(api.AtEdge, 0), []int64{3}, []int{0, 1}},
		{"the point 0", triangle(), at(api.AtPoint, 0), []int64{1, 3}, []int{0, 1}},
		{"the point 1", triangle(), at(api.AtPoint, 1), []int64{2, 3}, []int{0, 1}},
		{"the point 2", triangle(), at(api.AtPoint, 2), []int64{1, 2}, []int{0, 1}},
		{"the face 0", triangle(), at(api.AtFace, 0), nil, []int{0}},
		{"the face 1", triangle(), at(api.AtFace, 1), nil, []int{1}},
		{"the segment in the nest", nest(), at(api.AtEdge, 9), []int64{4}, []int{3}},
		{"its end", nest(), at(api.AtPoint, 6), []int64{4}, []int{3}},
		{"a side between the first and the second", nest(), at(api.AtEdge, 3), []int64{2}, []int{1, 2}},
		{"a corner between these", nest(), at(api.AtPoint, 2), []int64{2}, []int{1, 2}},
		{"the face 3", nest(), at(api.AtFace, 3), nil, []int{3}},
		{"a side of two objects, of one twice", twice, at(api.AtEdge, 0), []int64{2, 9}, []int{0, 1}},
		{"one of three", twice, at(api.AtEdge, 4), []int64{2, 5, 9}, []int{1, 2}},
		{"a corner of three", twice, at(api.AtPoint, 4), []int64{2, 5, 9}, []int{0, 1, 2}},
		{"within, of the greatest number", twice, at(api.AtEdge, 3), []int64{2, 1<<31 - 1}, []int{1}},
	} {
		s := made(t, c.l...)
		if l, e := locate.Through(s, c.x); !slices.Equal(l, c.ids) || e != api.OK {
			t.Error(c.what, l, e, s.Plan)
		}
		if l, e := locate.Faces(s, c.x); !slices.Equal(l, c.faces) || e != api.OK {
			t.Error(c.what, l, e, s.Plan)
		}
	}
}

func TestPlacesThatThereAreNot(t *testing.T) {
	for _, l := range [][]api.Curve{nil, triangle(), nest()} {
		s := made(t, l...)
		var wrong []api.Place
		for kind, many := range map[api.PlaceKind]int{api.AtPoint: len(s.Plan.Points), api.AtEdge: len(s.Plan.Edges), api.AtFace: len(s.Faces.Border)} {
			for _, i := range strange(many) {
				wrong = append(wrong, at(kind, i))
			}
		}
		for _, kind := range append(strange(4), 0) {
			for _, i := range append(strange(1), 0) {
				wrong = append(wrong, at(api.PlaceKind(kind), i))
			}
		}
		for _, x := range wrong {
			if l, e := locate.Through(s, x); l != nil || e != api.ErrRange {
				t.Error(x, l, e)
			}
			if l, e := locate.Faces(s, x); l != nil || e != api.ErrRange {
				t.Error(x, l, e)
			}
		}
	}
}

func TestWhatIsHandedInStaysAndAnswersAreNewMemory(t *testing.T) {
	s := made(t, slices.Concat(nest(), nest(), triangle(), []api.Curve{curve(9, -3, -3, 14, 13)})...)
	s.Plan.Points = append(s.Plan.Points, api.Point{}, api.Point{})[:len(s.Plan.Points)]
	s.Plan.Edges = append(s.Plan.Edges, api.Edge{A: -7}, api.Edge{A: -7})[:len(s.Plan.Edges)]
	for k, e := range s.Plan.Edges {
		s.Plan.Edges[k].IDs = append(e.IDs, -7, -7)[:len(e.IDs)]
	}
	kept := copied(s)
	for _, x := range drawn(s).places() {
		ids, _ := locate.Through(s, x)
		clear(ids[:cap(ids)])
		faces, _ := locate.Faces(s, x)
		clear(faces[:cap(faces)])
	}
	l := drawn(s).asked(dice(13))
	points := slices.Clone(l)
	for _, p := range l {
		locate.Where(s, p)
	}
	all(s, l...)
	many, edges := len(s.Plan.Points), len(s.Plan.Edges)
	if !same(s, kept) || !slices.Equal(l, points) || s.Plan.Points[:many+1][many] != (api.Point{}) || s.Plan.Edges[:edges+1][edges].A != -7 {
		t.Error("what was handed in is changed", s)
	}
	for _, e := range s.Plan.Edges {
		if n := len(e.IDs); !slices.Equal(e.IDs[:n+2][n:], []int64{-7, -7}) {
			t.Error("what is behind IDs is changed", e)
		}
	}
}

func TestAsManyAsMayBe(t *testing.T) {
	const many = api.MaxCorners
	var net, star, cross, nest []api.Curve
	for i := range int64(many / 2) {
		net = append(net, curve(1+i, -1, i, many/2, i), curve(1000+i, i, many/2, i, -1))
	}
	for i := range int64(many) {
		star = append(star, curve(many-i, -most, i-many/2, most, many/2-i))
		cross = append(cross, curve(1+i, -most+i*7, -most+i*i*200+3, most-i*i, most-i*100003-1))
	}
	for i := range int64(many / 4) {
		nest = append(nest, square(1+i, i, i, 2*(many/4-i))...)
	}
	s := made(t, net...)
	if x, e := locate.Where(s, spot("7 9")); x.Kind != api.AtPoint || s.Plan.Points[x.At] != spot("7 9") || e != api.OK {
		t.Error(x, e)
	} else if l, e := locate.Through(s, x); !slices.Equal(l, []int64{10, 1007}) || e != api.OK {
		t.Error(l, e)
	} else if l, e := locate.Faces(s, x); len(l) != 4 || l[0] < 1 || e != api.OK {
		t.Error(l, e)
	}
	seen := map[int]bool{}
	for i := range int64(many/2 - 1) {
		p, e := point.Move(spot("1/2 1/3"), i, i*i%255)
		x, f := locate.Where(s, p)
		if x.Kind != api.AtFace || x.At == 0 || seen[x.At] || e != api.OK || f != api.OK {
			t.Fatal(p, x, e, f)
		}
		seen[x.At] = true
	}
	s = made(t, star...)
	middle, e := locate.Where(s, spot("0 0"))
	if l, f := locate.Through(s, middle); middle.Kind != api.AtPoint || len(l) != many || l[0] != 1 || l[many-1] != many || !slices.IsSorted(l) || e != api.OK || f != api.OK {
		t.Error(middle, l, e, f)
	}
	if l, e := locate.Faces(s, middle); !slices.Equal(l, []int{0}) || e != api.OK {
		t.Error(l, e)
	}
	if x, e := locate.Where(s, spot("1 1/67108864")); x.Kind != api.AtEdge || s.Plan.Edges[x.At].IDs[0] != many-255 || e != api.OK {
		t.Error(x, e)
	}
	s = made(t, cross...)
	for _, i := range []int{0, 1, len(s.Plan.Points) / 2, len(s.Plan.Points) - 1} {
		if x, e := locate.Where(s, s.Plan.Points[i]); x != at(api.AtPoint, i) || e != api.OK {
			t.Error(i, x, e)
		}
	}
	s = made(t, nest...)
	for i := range int64(many / 4) {
		p, e := point.Move(spot("1/2 3/2"), i, i) // in the face within the square 1 + i
		x, f := locate.Where(s, p)
		if x.Kind != api.AtFace || s.Mesh.Cycle[2*slices.IndexFunc(s.Plan.Edges, func(e api.Edge) bool { return e.IDs[0] == 1+i })+1] != s.Faces.Border[x.At] || e != api.OK || f != api.OK {
			t.Fatal(i, x, e, f)
		}
	}
}
