package faces_test

import (
	"slices"
	"testing"

	"merestone/api"
	"merestone/dcel"
	"merestone/faces"
	"merestone/point"
	"merestone/split"
)

// asked are points near the figures of lists, among them all of the plan, and middles between these.
func asked(t *testing.T, p api.Plan, below func(int) int) []api.Point {
	l := slices.Clone(p.Points)
	for i := range p.Points {
		m, e := point.Mid(p.Points[i], p.Points[below(len(p.Points))])
		if e == api.OK { // else that would be too great for a point
			l = append(l, m)
		}
	}
	for range 20 {
		at, e := point.Move(spot([]string{"0 0", "1/2 1/2", "1/3 -1/7", "0 1/18446744073709551615", "1/18446744073709551615 0"}[below(5)]), int64(below(40)-20), int64(below(40)-20))
		if e != api.OK {
			t.Fatal(e)
		}
		l = append(l, at)
	}
	return l
}

func TestUnder(t *testing.T) {
	below := dice()
	var there, nothing int
	lists(9, func(l []api.Curve) {
		p, _ := planned(t, l...)
		all := pairs(p)
		for _, at := range asked(t, p, below) {
			wanted, is := highest(p, all, pair{fraction(at.X), fraction(at.Y)})
			if k, found, e := faces.Under(p, at); k != wanted || found != is || e != api.OK {
				t.Fatal(l, at, k, found, e, wanted, is)
			}
			if is {
				there++
			} else {
				nothing++
			}
		}
	})
	if there < 999 || nothing < 999 {
		t.Error("not all are there", there, nothing)
	}
}

func TestUnderRows(t *testing.T) {
	flat := []api.Curve{curve(1, 0, 0, 4, 0)}
	steep := []api.Curve{curve(1, -2, -2, 0, 0), curve(1, -2, -1, 0, 0), curve(1, -3, 0, 0, 0), curve(1, -1, 3, 0, 0), curve(1, 0, 0, 3, 3)} // the edges that end at 0 0 rise by 0, 1, 1/2, -3, in their order
	upright := []api.Curve{curve(1, 0, 0, 0, 4), curve(1, -1, -1, 1, -1)}
	bound := []api.Curve{curve(1, -most, -most, most, -most), curve(1, -most, most-1, most, most)}
	across := []api.Curve{curve(1, 0, 0, 2, 2), curve(1, 0, 2, 2, 0)} // 0 0 to 1 1; 0 2 to 1 1; 1 1 to 2 0; 1 1 to 2 2
	for _, c := range []struct {
		what string
		l    []api.Curve
		at   string
		want int // -1: there is none
	}{
		{"of nothing", nil, "0 0", -1}, {"above", flat, "2 1", 0}, {"little above", flat, "2 1/18446744073709551615", 0}, {"on it", flat, "2 0", -1}, {"below", flat, "2 -1", -1},
		{"straight above where it begins", flat, "0 1", -1}, {"straight above where it ends", flat, "4 1", 0}, {"to the left", flat, "-1 1", -1}, {"to the right", flat, "5 1", -1},
		{"little behind where it begins", flat, "1/18446744073709551615 1", 0}, {"little behind where it ends", flat, "73786976294838206461/18446744073709551615 1", -1},
		{"over many ends, the least steep one that is the highest to the left", steep, "0 1", 3}, {"at those ends", steep, "0 0", -1}, {"ahead of them", steep, "-1/2 0", 2},
		{"ahead of them and above", steep, "-1/2 1", 0}, {"behind them", steep, "1/2 1", 4}, {"above all, by the left", steep, "-1/2 9", 3},
		{"straight above one upright", upright, "0 5", 0}, {"on one upright", upright, "0 2", 0}, {"straight below one upright", upright, "0 -1/2", 0},
		{"at the crossing", across, "1 1", -1}, {"above the crossing", across, "1 2", 1}, {"between, to the left", across, "1/2 1", 0}, {"between, to the right", across, "3/2 1", 2},
		{"above, to the left", across, "1/2 2", 1}, {"above, to the right", across, "3/2 2", 3}, {"above its end", across, "2 1", 2},
		{"at the bound, between", bound, "0 0", 0}, {"at the bound, above", bound, "67108864 67108865", 1}, {"at the bound, on it", bound, "67108864 67108864", 0},
		{"at the bound, on it by half", bound, "0 134217727/2", 0}, {"at the bound, farther above", bound, "0 67108864", 1},
		{"far above", flat, "1 79228162514264337593543950335", 0}, {"far below", flat, "1 -79228162514264337593543950335", -1}, {"far to the right", flat, "79228162514264337593543950335 1", -1},
		{"far to the left", flat, "-79228162514264337593543950335/2 1", -1},
	} {
		p, _ := planned(t, c.l...)
		k, is, e := faces.Under(p, spot(c.at))
		if is != (c.want >= 0) || is && k != c.want || !is && k != 0 || e != api.OK {
			t.Error(c.what, k, is, e, p.Edges)
		}
	}
}

func TestUnderOfWrongPoints(t *testing.T) {
	square, _ := planned(t, square(1, 0, 0, 4)...)
	for _, p := range []api.Plan{{}, square} {
		for _, at := range wrongPoints() {
			if k, is, e := faces.Under(p, at); k != 0 || is || e != api.ErrArg {
				t.Error(at, k, is, e)
			}
		}
	}
}

// deepest is how many faces are within one another below the face i, each in a hole of the one ahead.
func deepest(m api.Mesh, f api.Faces, i int) int {
	deep := 0
	for _, hole := range f.Holes[i] {
		for h, c := range m.Cycle {
			if inner := f.Of[m.Cycle[h^1]]; c == hole && inner != i {
				deep = max(deep, 1+deepest(m, f, inner))
			}
		}
	}
	return deep
}

func TestBuild(t *testing.T) {
	var holes, deep int
	lists(9, func(l []api.Curve) {
		p, m := planned(t, l...)
		wanted := facesOf(p, m)
		if got := faces.Build(p, m); !same(got, wanted) {
			t.Fatal(l, got, wanted)
		}
		holes = max(holes, len(slices.Concat(wanted.Holes[1:]...)))
		deep = max(deep, deepest(m, wanted, 0))
	})
	if holes < 3 || deep < 3 {
		t.Error("not all are there", holes, deep)
	}
}

func TestBuildRows(t *testing.T) {
	for _, c := range []struct {
		what string
		l    []api.Curve
		want api.Faces
	}{
		{"nothing", nil, api.Faces{Border: []int{-1}, Holes: [][]int{nil}}},
		{"a segment", []api.Curve{curve(1, 0, 0, 2, 1)}, api.Faces{Border: []int{-1}, Holes: [][]int{{0}}, Of: []int{0}}},
		{"two, one above", []api.Curve{curve(1, 0, 0, 2, 0), curve(1, 1, 1, 2, 1)}, api.Faces{Border: []int{-1}, Holes: [][]int{{0, 1}}, Of: []int{0, 0}}},
		{"a square, which goes upwards first", square(1, 0, 0, 4), api.Faces{Border: []int{-1, 1}, Holes: [][]int{{0}, nil}, Of: []int{0, 1}}},
		{"a square, and a segment within", slices.Concat(square(1, 0, 0, 4), []api.Curve{curve(2, 1, 1, 2, 1)}), // its cycles: outside 0, within 1; of the segment 2
			api.Faces{Border: []int{-1, 1}, Holes: [][]int{{0}, {2}}, Of: []int{0, 1, 1}}},
		{"and another one above that", slices.Concat(square(1, 0, 0, 4), []api.Curve{curve(2, 1, 1, 3, 1), curve(2, 2, 2, 3, 2)}),
			api.Faces{Border: []int{-1, 1}, Holes: [][]int{{0}, {2, 3}}, Of: []int{0, 1, 1, 1}}},
		{"and one above the square", slices.Concat(square(1, 0, 0, 4), []api.Curve{curve(2, 1, 6, 2, 6)}),
			api.Faces{Border: []int{-1, 1}, Holes: [][]int{{0, 2}, nil}, Of: []int{0, 1, 0}}},
		{"and one above its right side", slices.Concat(square(1, 0, 0, 4), []api.Curve{curve(2, 4, 6, 5, 6)}),
			api.Faces{Border: []int{-1, 1}, Holes: [][]int{{0, 2}, nil}, Of: []int{0, 1, 0}}},
		{"one within another, one within that", slices.Concat(square(1, 0, 0, 9), square(1, 2, 2, 5), square(1, 3, 3, 2)),
			api.Faces{Border: []int{-1, 1, 3, 5}, Holes: [][]int{{0}, {2}, {4}, nil}, Of: []int{0, 1, 1, 2, 2, 3}}},
		{"one beside another within", slices.Concat(square(1, 0, 0, 9), square(1, 1, 1, 2), square(1, 1, 5, 2), square(1, 5, 5, 2)),
			api.Faces{Border: []int{-1, 1, 3, 5, 7}, Holes: [][]int{{0}, {2, 4, 6}, nil, nil, nil}, Of: []int{0, 1, 1, 2, 1, 3, 1, 4}}},
	} {
		p, m := planned(t, c.l...)
		if got := faces.Build(p, m); !same(got, c.want) {
			t.Error(c.what, got, m)
		}
	}
}

func TestAsManyAsMayBe(t *testing.T) {
	var nested, rows, net []api.Curve
	const rings = api.MaxCorners / 4
	for i := range int64(rings) {
		nested = append(nested, square(1, i, i, 1000-2*i)...)
	}
	for i := range int64(api.MaxCorners) {
		rows = append(rows, curve(1, -most, i, most-i, i))
	}
	for i := range int64(api.MaxCorners / 2) {
		net = append(net, curve(1, -1, i, 256, i), curve(2, i, 256, i, -1))
	}
	p, m := planned(t, nested...)
	f := faces.Build(p, m)
	if len(f.Border) != rings+1 || len(f.Holes[rings]) > 0 {
		t.Error(f)
	}
	for i, holes := range f.Holes[:rings] {
		if len(holes) != 1 || f.Of[holes[0]] != i || p.Points[m.From[slices.Index(m.Cycle, holes[0])]] != p.Points[2*i] {
			t.Error(i, holes)
		}
		if got := faces.Beside(m, f, i); i > 0 && !slices.Equal(got, []int{i - 1, i + 1}) {
			t.Error(i, got)
		}
	}
	p, m = planned(t, rows...)
	if f = faces.Build(p, m); len(f.Border) != 1 || len(f.Holes[0]) != api.MaxCorners || len(slices.Collect(faces.Halves(m, f, 0))) != 2*api.MaxCorners {
		t.Error(f)
	}
	p, m = planned(t, net...)
	if f = faces.Build(p, m); len(f.Border) != 255*255+1 || len(f.Holes[0]) != 1 || len(faces.Beside(m, f, 0)) != 4*254 || len(slices.Collect(faces.Halves(m, f, 0))) != 4*255+8*256 {
		t.Error(len(f.Border), f.Holes[0])
	}
}

func TestFaceHalvesBeside(t *testing.T) {
	lists(9, func(l []api.Curve) {
		p, m := planned(t, l...)
		f, wanted := faces.Build(p, m), facesOf(p, m)
		for i := range wanted.Border {
			var halves, others []int
			for h, c := range m.Cycle {
				other := wanted.Of[m.Cycle[h^1]]
				if wanted.Of[c] != i {
					continue
				}
				halves = append(halves, h)
				if face, e := faces.Face(m, f, h); face != i || e != api.OK {
					t.Fatal(l, h, face, e)
				}
				if other != i && !slices.Contains(others, other) {
					others = append(others, other)
				}
			}
			slices.Sort(others)
			if got := slices.Collect(faces.Halves(m, f, i)); !slices.Equal(got, halves) {
				t.Fatal(l, i, got, halves)
			}
			if got := faces.Beside(m, f, i); !slices.Equal(got, others) {
				t.Fatal(l, i, got, others)
			}
		}
		for _, h := range strange(len(m.Cycle)) {
			if face, e := faces.Face(m, f, h); face != 0 || e != api.ErrRange {
				t.Fatal(l, h, face, e)
			}
		}
		for _, i := range strange(len(f.Border)) {
			if len(slices.Collect(faces.Halves(m, f, i)))+len(faces.Beside(m, f, i)) > 0 {
				t.Fatal(l, i)
			}
		}
	})
}

func TestHalvesAreLeftAndGoneOverAgain(t *testing.T) {
	p, m := planned(t, slices.Concat(square(1, 0, 0, 4), []api.Curve{curve(2, 1, 1, 2, 1)})...)
	f := faces.Build(p, m)
	wanted := []int{1, 2, 5, 6, 7, 8} // of 0-1 down, of 0-4 to the right, of 1-5 to the left, of 2-3 both, of 4-5 up
	halves := faces.Halves(m, f, 1)
	clear(m.Cycle) // what was handed in is not kept
	clear(f.Of)
	clear(f.Border)
	for n := range len(wanted) + 1 {
		var got []int
		for h := range halves {
			if len(got) == n {
				break
			}
			got = append(got, h)
		}
		if !slices.Equal(got, wanted[:n]) {
			t.Error(n, got)
		}
	}
	for range halves { // one within another
		if got := slices.Collect(halves); !slices.Equal(got, wanted) {
			t.Error(got)
		}
	}
}

func TestOfNothing(t *testing.T) {
	for _, p := range []api.Plan{{}, {Points: []api.Point{}, Edges: []api.Edge{}}} {
		m := dcel.Build(p)
		f := faces.Build(p, m)
		for _, i := range append(strange(0), 0, 1) {
			if face, e := faces.Face(m, f, i); face != 0 || e != api.ErrRange || len(slices.Collect(faces.Halves(m, f, i)))+len(faces.Beside(m, f, i)) > 0 {
				t.Error(i, face, e)
			}
		}
	}
}

func TestWhatIsHandedInStaysAndAnswersAreNewMemory(t *testing.T) {
	l := slices.Concat(square(1, 0, 0, 9), square(1, 1, 1, 2), square(2, 1, 5, 2), square(1, 5, 5, 2), []api.Curve{curve(2, 6, 6, 6, 7)})
	p, m := planned(t, l...)
	kept, mesh := planned(t, l...)
	f := faces.Build(p, m)
	wanted := copied(f)
	for i := range f.Border {
		for range faces.Halves(m, f, i) {
		}
		clear(faces.Beside(m, f, i))
		faces.Under(p, p.Points[i])
	}
	if !split.Same(p, kept) || !sameMesh(m, mesh) || !same(f, wanted) {
		t.Error("what was handed in is changed", p, m, f)
	}
	lists := append([][]int{f.Border, f.Of}, f.Holes...)
	for _, own := range lists { // no two lists share any, nor room behind them
		_ = append(own, 7, 7, 7)
	}
	if !same(f, wanted) {
		t.Error("room is shared", f)
	}
	for i, own := range lists {
		for at := range own {
			own[at] = i
		}
	}
	for i, own := range lists {
		if slices.ContainsFunc(own, func(n int) bool { return n != i }) {
			t.Error(i, own)
		}
	}
	if !split.Same(p, kept) || !sameMesh(m, mesh) || !same(faces.Build(p, m), wanted) {
		t.Error("not the same again")
	}
}

func TestTheRoomBehindWhatIsHandedInStays(t *testing.T) {
	p, m := planned(t, slices.Concat(square(1, 0, 0, 9), square(1, 1, 1, 2))...)
	f := faces.Build(p, m)
	room := func(l []int) []int { return append(slices.Clone(l), -7, -7, -7)[:len(l)] }
	m.From, m.Cycle, f.Border, f.Of = room(m.From), room(m.Cycle), room(f.Border), room(f.Of)
	for i, holes := range f.Holes {
		f.Holes[i] = room(holes)
	}
	faces.Build(p, m)
	for i := range f.Border {
		faces.Beside(m, f, i)
		for range faces.Halves(m, f, i) {
		}
	}
	for i, l := range append([][]int{m.From, m.Cycle, f.Border, f.Of}, f.Holes...) {
		if behind := l[len(l) : len(l)+3]; !slices.Equal(behind, []int{-7, -7, -7}) {
			t.Error(i, behind)
		}
	}
}
