package ray_test

import (
	"math"
	"slices"
	"testing"

	"merestone/api"
	"merestone/ratio"
	"merestone/ray"
	"merestone/split"
)

func TestKinds(t *testing.T) {
	if api.HitNone != 0 || api.HitPoint != 1 || api.HitEdge != 2 {
		t.Error(api.HitNone, api.HitPoint, api.HitEdge)
	}
}

func TestDownAndUp(t *testing.T) {
	below := dice(7)
	var went [3]int
	drawings(func(l []api.Curve) {
		p := planned(t, l...)
		all := corners(p)
		for _, x := range columns(p, below) {
			column := columnOf(p, all, value(x))
			for _, y := range heights(column) {
				at := api.Point{X: x, Y: y}
				wanted, other := downOf(column, value(y)), upOf(column, value(y))
				if h, e := ray.Down(p, at); !is(h, wanted) || e != api.OK {
					t.Fatal(l, at, h, e, wanted)
				}
				if h, e := ray.Up(p, at); !is(h, other) || e != api.OK {
					t.Fatal(l, at, h, e, other)
				}
				went[wanted.kind]++
				went[other.kind]++
			}
		}
	})
	if min(went[api.HitNone], went[api.HitPoint], went[api.HitEdge]) < 999 {
		t.Error("not all are there", went)
	}
}

func TestRows(t *testing.T) {
	wedge := []api.Curve{line(0, 0, 4, 0), line(0, 0, 4, 4)}    // points 0 0, 4 0, 4 4; edges 0 to them
	upright := []api.Curve{line(0, 0, 0, 4), line(-1, 6, 1, 6)} // points -1 6, 0 0, 0 4, 1 6; edges -1 6 to 1 6, 0 0 to 0 4
	across := []api.Curve{line(0, 0, 2, 2), line(0, 2, 2, 0)}   // points 0 0, 0 2, 1 1, 2 0, 2 2
	cut := []api.Curve{line(-1, 0, 1, 0), line(0, -3, 0, 5)}    // points -1 0, 0 -3, 0 0, 0 5, 1 0; edges 0-2, 1-2, 2-3, 2-4
	bound := []api.Curve{line(-most, -most, most, -most), line(-most, most-1, most, most), line(-most, -most, -most, most)}
	const none = -1
	for _, c := range []struct {
		what   string
		l      []api.Curve
		at     string
		down   api.HitKind
		downAt int
		downY  string
		up     api.HitKind
		upAt   int
		upY    string
	}{
		{"of nothing", nil, "0 0", 0, 0, "", 0, 0, ""},
		{"above both", wedge, "2 3", api.HitEdge, 1, "2", 0, 0, ""},
		{"between", wedge, "2 1", api.HitEdge, 0, "0", api.HitEdge, 1, "2"},
		{"below both", wedge, "2 -1", 0, 0, "", api.HitEdge, 0, "0"},
		{"between ends", wedge, "4 2", api.HitPoint, 1, "0", api.HitPoint, 2, "4"},
		{"above where both begin", wedge, "0 1", api.HitPoint, 0, "0", 0, 0, ""},
		{"below where both begin", wedge, "0 -1", 0, 0, "", api.HitPoint, 0, "0"},
		{"where both begin", wedge, "0 0", 0, 0, "", 0, 0, ""},
		{"on the lower one", wedge, "2 0", 0, 0, "", api.HitEdge, 1, "2"},
		{"on the upper one", wedge, "2 2", api.HitEdge, 0, "0", 0, 0, ""},
		{"at an end", wedge, "4 4", api.HitPoint, 1, "0", 0, 0, ""},
		{"close behind where both begin", wedge, little + " 1", api.HitEdge, 1, little, 0, 0, ""},
		{"close behind, below", wedge, little + " -1", 0, 0, "", api.HitEdge, 0, "0"},
		{"close ahead of it", wedge, "-" + little + " 1", 0, 0, "", 0, 0, ""},
		{"close ahead of an end", wedge, "73786976294838206459/18446744073709551615 2", api.HitEdge, 0, "0", api.HitEdge, 1, "73786976294838206459/18446744073709551615"},
		{"close behind an end", wedge, "73786976294838206461/18446744073709551615 2", 0, 0, "", 0, 0, ""},
		{"close above", wedge, "2 " + little, api.HitEdge, 0, "0", api.HitEdge, 1, "2"},
		{"close below", wedge, "2 -" + little, 0, 0, "", api.HitEdge, 0, "0"},
		{"far above", wedge, "1/3 " + far, api.HitEdge, 1, "1/3", 0, 0, ""},
		{"far below", wedge, "1/3 -" + far, 0, 0, "", api.HitEdge, 0, "0"},
		{"far to the right", wedge, far + " 1", 0, 0, "", 0, 0, ""},
		{"far to the left", wedge, "-" + far + " 1", 0, 0, "", 0, 0, ""},
		{"within one upright", upright, "0 1", api.HitPoint, 1, "0", api.HitPoint, 2, "4"},
		{"above one upright", upright, "0 5", api.HitPoint, 2, "4", api.HitEdge, 0, "6"},
		{"above all, over one upright", upright, "0 7", api.HitEdge, 0, "6", 0, 0, ""},
		{"below one upright", upright, "0 -1/2", 0, 0, "", api.HitPoint, 1, "0"},
		{"above the crossing", across, "1 2", api.HitPoint, 2, "1", 0, 0, ""},
		{"at the crossing", across, "1 1", 0, 0, "", 0, 0, ""},
		{"left of the crossing", across, "1/2 1", api.HitEdge, 0, "1/2", api.HitEdge, 1, "3/2"},
		{"right of the crossing", across, "3/2 1", api.HitEdge, 2, "1/2", api.HitEdge, 3, "3/2"},
		{"within one upright that is cut", cut, "0 3", api.HitPoint, 2, "0", api.HitPoint, 3, "5"},
		{"and below the cut", cut, "0 -2", api.HitPoint, 1, "-3", api.HitPoint, 2, "0"},
		{"at the cut", cut, "0 0", api.HitPoint, 1, "-3", api.HitPoint, 3, "5"},
		{"at the bound, between", bound, "0 0", api.HitEdge, 1, "-67108864", api.HitEdge, 3, "134217727/2"},
		{"at the bound, on it by half", bound, "0 134217727/2", api.HitEdge, 1, "-67108864", 0, 0, ""},
		{"at the bound, to the right", bound, "67108864 67108863", api.HitPoint, 3, "-67108864", api.HitPoint, 4, "67108864"},
		{"at the bound, to the left", bound, "-67108864 67108863", api.HitPoint, 0, "-67108864", api.HitPoint, 2, "67108864"},
	} {
		p := planned(t, c.l...)
		down, up := api.Hit{Kind: c.down, At: c.downAt}, api.Hit{Kind: c.up, At: c.upAt}
		if c.down != api.HitNone {
			down.Y = number(c.downY)
		}
		if c.up != api.HitNone {
			up.Y = number(c.upY)
		}
		if h, e := ray.Down(p, spot(c.at)); h != down || e != api.OK {
			t.Error(c.what, "down", h, e, p)
		}
		if h, e := ray.Up(p, spot(c.at)); h != up || e != api.OK {
			t.Error(c.what, "up", h, e, p)
		}
	}
}

func TestWrongPoints(t *testing.T) {
	for _, p := range []api.Plan{{}, planned(t, box(0, 0, 4)...)} {
		for _, at := range wrongPoints() {
			if h, e := ray.Down(p, at); h != (api.Hit{}) || e != api.ErrArg {
				t.Error("down", at, h, e)
			}
			if h, e := ray.Up(p, at); h != (api.Hit{}) || e != api.ErrArg {
				t.Error("up", at, h, e)
			}
		}
	}
}

func TestHeight(t *testing.T) {
	below := dice(9)
	went := map[api.Errno]int{}
	drawings(func(l []api.Curve) {
		p := planned(t, l...)
		all := corners(p)
		for _, x := range columns(p, below) {
			at := value(x)
			for k, edge := range p.Edges {
				a, b := all[edge.A], all[edge.B]
				wanted := api.OK
				switch {
				case a.x.Cmp(b.x) == 0:
					wanted = api.ErrUpright
				case at.Cmp(a.x) < 0 || at.Cmp(b.x) > 0:
					wanted = api.ErrNone
				}
				y, e := ray.Height(p, k, x)
				if e != wanted || e != api.OK && y != (api.Rat{}) {
					t.Fatal(l, k, x, y, e, wanted)
				}
				if e == api.OK && value(y).Cmp(height(a, b, at)) != 0 {
					t.Fatal(l, k, x, y)
				}
				went[e]++
			}
		}
	})
	if min(went[api.OK], went[api.ErrUpright], went[api.ErrNone]) < 999 {
		t.Error("not all are there", went)
	}
}

func TestHeightRows(t *testing.T) {
	p := planned(t, line(0, 0, 4, 0), line(0, 0, 4, 4), line(4, -9, 4, -3), line(-most, 1-most, 3-most, 3-most)) // edges: the last one, 0 0 to 4 0, to 4 4, the upright one
	far, wrong := number(far), api.Rat{N: number("1").N}
	for _, c := range []struct {
		what string
		k    int
		x    api.Rat
		want string
		e    api.Errno
	}{
		{"within", 2, number("1"), "1", api.OK}, {"where it begins", 2, number("0"), "0", api.OK}, {"where it ends", 2, number("4"), "4", api.OK},
		{"level", 1, number("1/3"), "0", api.OK}, {"close to its end", 2, number(little), little, api.OK}, {"at the bound", 0, number("-67108864"), "-67108863", api.OK},
		{"by thirds", 0, number("-67108863"), "-201326587/3", api.OK}, {"to its right", 2, number("5"), "", api.ErrNone}, {"close to its right", 2, number("73786976294838206461/18446744073709551615"), "", api.ErrNone},
		{"close to its left", 2, number("-" + little), "", api.ErrNone}, {"far to its right", 2, far, "", api.ErrNone}, {"of one upright", 3, number("4"), "", api.ErrUpright},
		{"of one upright, to its left", 3, number("3"), "", api.ErrUpright}, {"of one upright, far off", 3, far, "", api.ErrUpright},
		{"one past the last", 4, number("0"), "", api.ErrRange}, {"of none, far off", 7, far, "", api.ErrRange}, {"below the first", -1, number("0"), "", api.ErrRange},
		{"huge", math.MaxInt, number("0"), "", api.ErrRange}, {"huge, below", math.MinInt, number("0"), "", api.ErrRange},
		{"a wrong x", 2, wrong, "", api.ErrArg}, {"a wrong x of none", 7, wrong, "", api.ErrArg}, {"a wrong x of one upright", 3, wrong, "", api.ErrArg},
	} {
		y, e := ray.Height(p, c.k, c.x)
		if e != c.e || e != api.OK && y != (api.Rat{}) || e == api.OK && y != number(c.want) {
			t.Error(c.what, y, e)
		}
	}
	for _, x := range wrongNumbers() {
		for _, k := range []int{-1, 0, 1, 2, 3, 4, math.MaxInt} {
			if y, e := ray.Height(p, k, x); y != (api.Rat{}) || e != api.ErrArg {
				t.Error(x, k, y, e)
			}
		}
	}
	if y, e := ray.Height(api.Plan{}, 0, number("0")); y != (api.Rat{}) || e != api.ErrRange {
		t.Error("of nothing", y, e)
	}
}

func TestColumn(t *testing.T) {
	below := dice(11)
	longest := 0
	drawings(func(l []api.Curve) {
		p := planned(t, l...)
		all := corners(p)
		for _, x := range columns(p, below) {
			wanted := columnOf(p, all, value(x))
			got := slices.Collect(ray.Column(p, x))
			if !slices.EqualFunc(got, wanted, is) {
				t.Fatal(l, x, got, wanted)
			}
			longest = max(longest, len(got))
		}
	})
	if longest < 9 {
		t.Error("none is long", longest)
	}
}

func TestColumnRows(t *testing.T) {
	point := func(at int, y string) api.Hit { return api.Hit{Kind: api.HitPoint, At: at, Y: number(y)} }
	edge := func(at int, y string) api.Hit { return api.Hit{Kind: api.HitEdge, At: at, Y: number(y)} }
	wedge := planned(t, line(0, 0, 4, 0), line(0, 0, 4, 4))
	cut := planned(t, line(-1, 0, 1, 0), line(0, -3, 0, 5), line(-2, 7, 2, 9), line(-2, -7, 2, -9)) // points -2 -7, -2 7, -1 0, 0 -3, 0 0, 0 5, 1 0, 2 -9, 2 9
	for _, c := range []struct {
		what string
		p    api.Plan
		x    string
		want []api.Hit
	}{
		{"of nothing", api.Plan{}, "0", nil}, {"within", wedge, "2", []api.Hit{edge(0, "0"), edge(1, "2")}}, {"where both begin", wedge, "0", []api.Hit{point(0, "0")}},
		{"where both end", wedge, "4", []api.Hit{point(1, "0"), point(2, "4")}}, {"to the left", wedge, "-" + little, nil}, {"to the right", wedge, "5", nil},
		{"through one upright", cut, "0", []api.Hit{edge(0, "-8"), point(3, "-3"), point(4, "0"), point(5, "5"), edge(1, "8")}},
		{"beside it", cut, "1/2", []api.Hit{edge(0, "-33/4"), edge(5, "0"), edge(1, "33/4")}}, {"far off", cut, far, nil}, {"far off, to the left", cut, "-" + far, nil},
	} {
		if got := slices.Collect(ray.Column(c.p, number(c.x))); !slices.Equal(got, c.want) {
			t.Error(c.what, got, c.p)
		}
	}
	for _, x := range wrongNumbers() {
		for h := range ray.Column(wedge, x) {
			t.Error(x, h)
		}
	}
}

func TestColumnIsLeftAndGoneOverAgain(t *testing.T) {
	p := planned(t, line(-1, 0, 1, 0), line(0, -3, 0, 5), line(-2, 7, 2, 9), line(-2, -7, 2, -9))
	wanted := slices.Collect(ray.Column(p, number("0")))
	column := ray.Column(p, number("0"))
	clear(p.Points) // what was handed in is not kept
	clear(p.Edges)
	for n := range len(wanted) + 1 {
		var got []api.Hit
		for h := range column {
			if len(got) == n {
				break
			}
			got = append(got, h)
		}
		if !slices.Equal(got, wanted[:n]) {
			t.Error(n, got)
		}
	}
	for range column { // one within another
		if got := slices.Collect(column); len(got) != 5 || !slices.Equal(got, wanted) {
			t.Error(got)
		}
	}
}

// TestHeightsAreThoseOfCurves holds columns against the curves alone, whose plan they are of.
func TestHeightsAreThoseOfCurves(t *testing.T) {
	below := dice(13)
	drawings(func(l []api.Curve) {
		p := planned(t, l...)
		for _, x := range columns(p, below) {
			at := value(x)
			var wanted []api.Rat
			for _, c := range l {
				ends := corners(planned(t, c))
				if a, b := ends[0], ends[1]; a.x.Cmp(b.x) < 0 && a.x.Cmp(at) <= 0 && at.Cmp(b.x) <= 0 {
					wanted = append(wanted, number(height(a, b, at).RatString()))
				}
			}
			for _, own := range p.Points {
				if own.X == x {
					wanted = append(wanted, own.Y)
				}
			}
			slices.SortFunc(wanted, func(a, b api.Rat) int { return value(a).Cmp(value(b)) })
			var got []api.Rat
			for h := range ray.Column(p, x) {
				got = append(got, h.Y)
			}
			if !slices.Equal(got, slices.Compact(wanted)) {
				t.Fatal(l, x, got, wanted)
			}
		}
	})
}

func TestAsManyAsMayBe(t *testing.T) {
	const many = api.MaxCorners
	var stairs, net, cross []api.Curve
	for i := range int64(many) {
		stairs = append(stairs, line(-most, i-256, i, i-256))
		cross = append(cross, line(-most+i*7, -most+i*i*200+3, most-i*i, most-i*100003-1))
	}
	for i := range int64(many / 2) {
		net = append(net, line(-1, i, 256, i), line(i, 256, i, -1))
	}
	p := planned(t, stairs...)
	l := slices.Collect(ray.Column(p, number("1/2")))
	if h, e := ray.Down(p, spot("1/2 "+far)); len(l) != many-1 || h != l[many-2] || h.Y != ratio.Of(255) || e != api.OK {
		t.Error(len(l), h, e)
	}
	p = planned(t, net...)
	for x, wanted := range map[string]int{"7": 258, "15/2": 256, "255": 258, "256": 256, "-1": 256, "-2": 0} {
		l := slices.Collect(ray.Column(p, number(x)))
		if len(l) != wanted {
			t.Error(x, len(l))
		}
	}
	p = planned(t, cross...)
	middle := p.Points[len(p.Points)/2]
	l = slices.Collect(ray.Column(p, middle.X))
	at := slices.IndexFunc(l, func(h api.Hit) bool { return h.Y == middle.Y })
	down, e := ray.Down(p, middle)
	up, f := ray.Up(p, middle)
	if len(l) != many-1 || l[at].At != len(p.Points)/2 || down != l[at-1] || up != l[at+1] || e != api.OK || f != api.OK {
		t.Error(len(l), at, down, up, e, f)
	}
}

func TestWhatIsHandedInStays(t *testing.T) {
	l := slices.Concat(box(0, 0, 9), box(1, 1, 2), []api.Curve{line(-3, -3, 12, 11), line(4, -3, 4, 30)})
	p, kept := planned(t, l...), planned(t, l...)
	p.Points = append(p.Points, api.Point{}, api.Point{})[:len(p.Points)]
	p.Edges = append(p.Edges, api.Edge{A: -7}, api.Edge{A: -7})[:len(p.Edges)]
	for _, at := range kept.Points {
		ray.Down(p, at)
		ray.Up(p, at)
		for range ray.Column(p, at.X) {
		}
		for k := range p.Edges {
			ray.Height(p, k, at.X)
		}
	}
	points, edges := len(p.Points), len(p.Edges)
	if !split.Same(p, kept) || p.Points[:points+1][points] != (api.Point{}) || p.Edges[:edges+1][edges].A != -7 {
		t.Error("what was handed in is changed", p)
	}
}
