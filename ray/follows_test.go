package ray_test

import (
	"slices"
	"testing"

	"merestone/api"
	"merestone/point"
	"merestone/ratio"
	"merestone/ray"
)

func TestDownIsTheLastOfTheColumnBelowAndUpTheFirstAbove(t *testing.T) {
	below := dice(17)
	drawings(func(l []api.Curve) {
		p := planned(t, l...)
		for _, x := range columns(p, below) {
			for _, y := range []string{"0", "1/3", "-2", "5/2", "67108864", "-" + far} {
				at := api.Point{X: x, Y: number(y)}
				var down, up api.Hit
				for h := range ray.Column(p, x) {
					c, e := ratio.Cmp(h.Y, at.Y)
					switch {
					case e != api.OK:
						t.Fatal(h, e)
					case c < 0:
						down = h
					case c > 0 && up == api.Hit{}:
						up = h
					}
				}
				if h, e := ray.Down(p, at); h != down || e != api.OK {
					t.Fatal(l, at, h, e, down)
				}
				if h, e := ray.Up(p, at); h != up || e != api.OK {
					t.Fatal(l, at, h, e, up)
				}
			}
		}
	})
}

func TestNothingIsBetweenTwoThatFollowOneAnother(t *testing.T) {
	below := dice(19)
	went := 0
	drawings(func(l []api.Curve) {
		p := planned(t, l...)
		for _, x := range columns(p, below) {
			column := append(slices.Collect(ray.Column(p, x)), api.Hit{}) // nothing is above the last one
			for i, h := range column[:len(column)-1] {
				before := api.Hit{}
				if i > 0 {
					before = column[i-1]
				}
				if !fits(h.Y) { // no point is there
					continue
				}
				at := api.Point{X: x, Y: h.Y}
				down, e := ray.Down(p, at)
				up, f := ray.Up(p, at)
				if down != before || up != column[i+1] || e != api.OK || f != api.OK {
					t.Fatal(l, at, down, e, before, up, f, column[i+1])
				}
				went++
			}
		}
	})
	if went < 999 {
		t.Error("few were asked", went)
	}
}

func TestHeightIsThatOfTheColumn(t *testing.T) {
	below := dice(23)
	went := 0
	drawings(func(l []api.Curve) {
		p := planned(t, l...)
		for _, x := range columns(p, below) {
			for h := range ray.Column(p, x) {
				if h.Kind != api.HitEdge {
					continue
				}
				if y, e := ray.Height(p, h.At, x); y != h.Y || e != api.OK {
					t.Fatal(l, x, h, y, e)
				}
				went++
			}
		}
	})
	if went < 999 {
		t.Error("few were asked", went)
	}
}

// moved is the hit so far up, if it is one.
func moved(h api.Hit, dy int64) api.Hit {
	if h.Kind != api.HitNone {
		h.Y, _ = ratio.Add(h.Y, ratio.Of(dy))
	}
	return h
}

func TestMovedWithAllRaysHitTheSame(t *testing.T) {
	below := dice(29)
	went := 0
	drawings(func(l []api.Curve) {
		p := planned(t, l...)
		for _, d := range [][2]int64{{1, 0}, {0, -1}, {-7, 12345}, {most - 99, 99 - most}} {
			others, may := changed(l, func(n api.Node) api.Node { return api.Node{X: n.X + d[0], Y: n.Y + d[1]} })
			if !may {
				continue
			}
			q := planned(t, others...)
			for _, x := range columns(p, below) {
				at := api.Point{X: x, Y: ratio.Of(int64(below(21) - 10))}
				there, e := point.Move(at, d[0], d[1])
				if e != api.OK {
					continue
				}
				var wanted []api.Hit
				for h := range ray.Column(p, x) {
					wanted = append(wanted, moved(h, d[1]))
				}
				if got := slices.Collect(ray.Column(q, there.X)); !slices.Equal(got, wanted) {
					t.Fatal(l, d, x, got, wanted)
				}
				down, e := ray.Down(p, at)
				up, f := ray.Up(p, at)
				lower, g := ray.Down(q, there)
				upper, h := ray.Up(q, there)
				if lower != moved(down, d[1]) || upper != moved(up, d[1]) || max(e, f, g, h) != api.OK {
					t.Fatal(l, d, at, down, up, lower, upper, e, f, g, h)
				}
				went++
			}
		}
	})
	if went < 999 {
		t.Error("little was moved", went)
	}
}

// upsideDown is the number of the other sign.
func upsideDown(t *testing.T, x api.Rat) api.Rat {
	y, e := ratio.Sub(ratio.Of(0), x)
	if e != api.OK {
		t.Fatal(x, e)
	}
	return y
}

func TestWithTheOtherYDownHitsWhatUpDid(t *testing.T) {
	below := dice(31)
	drawings(func(l []api.Curve) {
		p := planned(t, l...)
		others, may := changed(l, func(n api.Node) api.Node { return api.Node{X: n.X, Y: -n.Y} })
		q := planned(t, others...)
		if !may || len(p.Points) != len(q.Points) || len(p.Edges) != len(q.Edges) {
			t.Fatal(l)
		}
		flipped := func(i int) api.Point { return api.Point{X: p.Points[i].X, Y: upsideDown(t, p.Points[i].Y)} }
		same := func(h, o api.Hit) bool { // the places are others, as the points' order is
			switch {
			case h.Kind != o.Kind:
				return false
			case h.Kind == api.HitNone:
				return h == o
			case h.Kind == api.HitPoint:
				return flipped(h.At) == q.Points[o.At] && upsideDown(t, h.Y) == o.Y
			}
			a, b := p.Edges[h.At], q.Edges[o.At]
			return flipped(a.A) == q.Points[b.A] && flipped(a.B) == q.Points[b.B] && upsideDown(t, h.Y) == o.Y
		}
		for _, x := range columns(p, below) {
			at := api.Point{X: x, Y: ratio.Of(int64(below(21) - 10))}
			below := api.Point{X: x, Y: upsideDown(t, at.Y)}
			up, e := ray.Up(p, at)
			down, f := ray.Down(q, below)
			if !same(up, down) || e != api.OK || f != api.OK {
				t.Fatal(l, at, up, down, e, f)
			}
			down, e = ray.Down(p, at)
			up, f = ray.Up(q, below)
			if !same(down, up) || e != api.OK || f != api.OK {
				t.Fatal(l, at, up, down, e, f)
			}
		}
	})
}

func TestRaysHangNeitherOnOrderNorOnEnds(t *testing.T) {
	below := dice(37)
	drawings(func(l []api.Curve) {
		p := planned(t, l...)
		for i, c := range l {
			l[i].Seg = api.Seg{A: c.Seg.B, B: c.Seg.A}
		}
		slices.Reverse(l)
		q := planned(t, l...)
		for _, x := range columns(p, below) {
			if got, wanted := slices.Collect(ray.Column(q, x)), slices.Collect(ray.Column(p, x)); !slices.Equal(got, wanted) {
				t.Fatal(l, x, got, wanted)
			}
		}
	})
}
