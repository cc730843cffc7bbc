package point_test

import (
	"testing"

	"merestone/api"
	"merestone/point"
)

func TestOneIsAhead(t *testing.T) {
	pairs(func(a, b api.Point) {
		n, _ := point.Cmp(a, b)
		m, _ := point.Cmp(b, a)
		if n != -m || (n == 0) != (a == b) {
			t.Error(told(a), told(b), n, m)
		}
	})
}

func TestTheMiddleIsBetween(t *testing.T) {
	between := 0
	pairs(func(a, b api.Point) {
		one, e := point.Mid(a, b)
		other, f := point.Mid(b, a)
		same(t, "turned", one, e, other, f)
		if e != api.OK {
			return
		}
		wanted, _ := point.Cmp(a, b)
		first, _ := point.Cmp(a, one)
		second, _ := point.Cmp(one, b)
		if first != wanted || second != wanted {
			t.Error(told(a), told(one), told(b), first, second)
		}
		between++
	})
	if between == 0 {
		t.Error("no middle was told")
	}
}

func TestMovedThereAndBack(t *testing.T) {
	back := 0
	for _, p := range points() {
		for _, dx := range []int64{0, 1, -1, 1 << 26, -1 << 40} {
			for _, dy := range []int64{0, 2, -2, 1 << 27, -1 << 62} {
				q, e := point.Move(p, dx, dy)
				if e != api.OK {
					continue
				}
				got, e := point.Move(q, -dx, -dy)
				same(t, "there and back", got, e, p, api.OK)
				back++
				n, _ := point.Cmp(q, p)
				if left := dx < 0 || dx == 0 && dy < 0; left != (n < 0) {
					t.Error(told(p), dx, dy, n)
				}
			}
		}
	}
	if back == 0 {
		t.Error("none came back")
	}
}

func TestParseOfText(t *testing.T) {
	for _, p := range points() {
		s, _ := point.Text(p)
		got, e := point.Parse(s)
		same(t, s, got, e, p, api.OK)
	}
}

func TestGridOfOf(t *testing.T) {
	nodes(func(n api.Node, may bool) {
		if p, e := point.Of(n); may {
			if got, ok := point.Grid(p); got != n || !ok || e != api.OK {
				t.Error(n, got, ok, e)
			}
		}
	})
}
