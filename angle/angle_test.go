package angle_test

import (
	"slices"
	"testing"

	"merestone/angle"
	"merestone/api"
)

func TestCheck(t *testing.T) {
	for _, w := range append(spread(), few()...) {
		if e := angle.Check(w); e != api.OK {
			t.Error(w, e)
		}
	}
	for _, w := range bad() {
		if e := angle.Check(w); e != api.ErrArg {
			t.Error(w, e)
		}
	}
}

func TestCmpAndOpposite(t *testing.T) {
	told := map[int]int{}
	opposite := 0
	for _, a := range spread() {
		for _, b := range spread() {
			wanted := turn(a).Cmp(turn(b))
			told[wanted]++
			if n, e := angle.Cmp(a, b); n != wanted || e != api.OK {
				t.Fatal(a, b, n, e)
			}
			apart := behind(a, b)
			half := apart.IsInt() && apart.Num().Int64() == 2
			if half {
				opposite++
			}
			if is, e := angle.Opposite(a, b); is != half || e != api.OK {
				t.Fatal(a, b, is, e)
			}
		}
	}
	if len(told) != 3 || opposite == 0 {
		t.Error("not all are there", told, opposite)
	}
}

func TestCmpRows(t *testing.T) {
	for _, c := range []struct {
		a, b     api.Way
		want     int
		opposite bool
	}{
		{way(1, 0), way(0, 1), -1, false}, {way(0, -1), way(0, 1), 1, true}, {way(2, 2), way(5, 5), 0, false}, {way(1, 2), way(-2, -4), -1, true}, {way(-2, -4), way(1, 2), 1, true},
		{way(1, 0), way(-1, 0), -1, true}, {way(1, 0), way(most, 0), 0, false}, {way(most, -1), way(1, 0), 1, false}, {way(1, 0), way(1, 1), -1, false}, {way(-1, 1), way(-1, 0), -1, false}, {way(-1, 0), way(-1, -1), -1, false},
		{way(most, most-1), way(most-1, most-2), 1, false}, {way(most, most-1), way(1-most, 2-most), -1, false}, {way(most, most-1), way(-most, 1-most), -1, true}, {way(-most, 1), way(1-most, 1), 1, false},
	} {
		if n, e := angle.Cmp(c.a, c.b); n != c.want || e != api.OK {
			t.Error(c, n, e)
		}
		if is, e := angle.Opposite(c.a, c.b); is != c.opposite || e != api.OK {
			t.Error(c, is, e)
		}
	}
}

func TestBetween(t *testing.T) {
	told := map[bool]int{}
	for _, a := range few() {
		for _, b := range few() {
			for _, c := range few() {
				wanted := between(a, b, c)
				told[wanted]++
				if is, e := angle.Between(a, b, c); is != wanted || e != api.OK {
					t.Fatal(a, b, c, is, e)
				}
			}
		}
	}
	if len(told) != 2 {
		t.Error("not all are there", told)
	}
}

func TestBetweenRows(t *testing.T) {
	for _, c := range []struct {
		a, b, c api.Way
		want    bool
	}{
		{way(1, 0), way(0, 1), way(1, 1), true}, {way(0, 1), way(1, 0), way(1, 1), false}, {way(0, 1), way(1, 0), way(-1, 7), true}, {way(0, -1), way(0, 1), way(1, 0), true}, {way(0, -1), way(0, 1), way(-1, 0), false},
		{way(1, 0), way(0, 1), way(5, 0), false}, {way(1, 0), way(0, 1), way(0, 5), false},
		{way(1, 1), way(2, 2), way(1, 0), true}, {way(1, 1), way(2, 2), way(0, 1), true}, {way(1, 1), way(2, 2), way(-1, -1), true}, {way(1, 1), way(2, 2), way(3, 3), false}, {way(1, 1), way(1, 1), way(1, 1), false},
		{way(1, 0), way(1, 0), way(most, 1), true}, {way(1, 0), way(1, 0), way(most, -1), true}, {way(most, 1), way(most, -1), way(1, 0), false}, {way(most, -1), way(most, 1), way(1, 0), true},
		{way(most-2, most-1), way(most-1, most), way(1, 1), true}, {way(most-1, most), way(most-2, most-1), way(1, 1), false}, {way(most-1, most-2), way(most-2, most-1), way(most, most), true}, {way(most-1, most-2), way(1, 1), way(most, most-1), true},
	} {
		if is, e := angle.Between(c.a, c.b, c.c); is != c.want || e != api.OK {
			t.Error(c, is, e)
		}
	}
}

func TestQuarter(t *testing.T) {
	told := map[int]int{}
	for _, w := range spread() {
		wanted := turn(w)
		n, e := angle.Quarter(w)
		told[n]++
		if floor := wanted.Num().Int64() / wanted.Denom().Int64(); int64(n) != floor || e != api.OK {
			t.Error(w, n, e)
		}
	}
	if len(told) != 4 {
		t.Error("not all are there", told)
	}
	for _, c := range []struct {
		w    api.Way
		want int
	}{
		{way(1, 0), 0}, {way(1, most), 0}, {way(0, 1), 1}, {way(-most, 1), 1}, {way(-1, 0), 2}, {way(-1, -most), 2}, {way(0, -1), 3}, {way(most, -1), 3}, {way(1, -1), 3},
	} {
		if n, e := angle.Quarter(c.w); n != c.want || e != api.OK {
			t.Error(c, n, e)
		}
	}
}

func TestSort(t *testing.T) {
	moved := 0
	lists(60, func(l []api.Way) {
		handed := slices.Clone(l)
		wanted := sorted(l)
		if !slices.Equal(l, wanted) {
			moved++
		}
		got, e := angle.Sort(l...)
		if !slices.Equal(got, wanted) || e != api.OK {
			t.Fatal(l, got, e)
		}
		clear(got)
		if !slices.Equal(l, handed) {
			t.Fatal("what was handed in is changed", handed, l)
		}
	})
	if moved == 0 {
		t.Error("all were sorted")
	}
}

func TestSortRows(t *testing.T) {
	for _, c := range []struct{ l, want []api.Way }{
		{nil, nil}, {[]api.Way{}, nil}, {[]api.Way{way(0, -1)}, []api.Way{way(0, -1)}},
		{[]api.Way{way(0, -1), way(-1, 0), way(0, 1), way(1, 0)}, []api.Way{way(1, 0), way(0, 1), way(-1, 0), way(0, -1)}},
		{[]api.Way{way(3, 3), way(1, 0), way(1, 1), way(9, 0), way(2, 2)}, []api.Way{way(1, 0), way(9, 0), way(3, 3), way(1, 1), way(2, 2)}},
		{[]api.Way{way(1, 1), way(1, 1)}, []api.Way{way(1, 1), way(1, 1)}},
	} {
		if got, e := angle.Sort(c.l...); !slices.Equal(got, c.want) || e != api.OK {
			t.Error(c, got, e)
		}
	}
}

func TestSpareRoomIsLeft(t *testing.T) {
	room := []api.Way{way(0, -1), way(1, 0), way(5, 5), way(-2, 1)}
	kept := slices.Clone(room)
	if got, e := angle.Sort(room[:2]...); !slices.Equal(got, []api.Way{way(1, 0), way(0, -1)}) || e != api.OK {
		t.Error(got, e)
	}
	if at, e := angle.Next(way(1, 1), room[:2]...); at != 0 || e != api.OK {
		t.Error(at, e)
	}
	if got := around(room[:2]...); len(got) != 2 {
		t.Error(got)
	}
	if !slices.Equal(room, kept) {
		t.Error("what was handed in is changed", room)
	}
}

func TestNext(t *testing.T) {
	lists(12, func(l []api.Way) {
		handed := slices.Clone(l)
		for _, w := range few() {
			at, e := angle.Next(w, l...)
			switch {
			case len(l) == 0:
				if at != 0 || e != api.ErrNone {
					t.Fatal(w, at, e)
				}
			case at != next(w, l) || e != api.OK:
				t.Fatal(w, l, at, e)
			}
		}
		if !slices.Equal(l, handed) {
			t.Fatal("what was handed in is changed", handed, l)
		}
	})
}

func TestNextRows(t *testing.T) {
	for _, c := range []struct {
		w    api.Way
		l    []api.Way
		want int
		e    api.Errno
	}{
		{way(1, 0), []api.Way{way(0, 1), way(-1, 0), way(2, 0)}, 0, api.OK}, {way(1, 0), []api.Way{way(2, 0), way(0, -1)}, 1, api.OK}, {way(1, 0), []api.Way{way(2, 0), way(1, 0)}, 0, api.OK},
		{way(0, -1), []api.Way{way(-1, 0), way(1, 0)}, 1, api.OK}, {way(0, -1), []api.Way{way(-1, 0), way(0, 1), way(0, -4), way(0, 5)}, 1, api.OK}, {way(1, 0), []api.Way{way(0, -1), way(5, 5), way(1, 1), way(2, 2)}, 1, api.OK},
		{way(1, 1), []api.Way{way(3, 3), way(1, 0), way(7, 0)}, 1, api.OK}, {way(1, 1), []api.Way{way(3, 3)}, 0, api.OK}, {way(most-1, most-2), []api.Way{way(most-2, most-1), way(most, most), way(most, most-1)}, 2, api.OK},
		{way(1, 0), nil, 0, api.ErrNone}, {way(1, 0), []api.Way{}, 0, api.ErrNone}, {way(0, 0), nil, 0, api.ErrArg}, {way(0, most+1), []api.Way{}, 0, api.ErrArg},
	} {
		if at, e := angle.Next(c.w, c.l...); at != c.want || e != c.e {
			t.Error(c, at, e)
		}
	}
}

// around is what Round goes over.
func around(l ...api.Way) [][2]api.Way {
	var pairs [][2]api.Way
	for a, b := range angle.Round(l...) {
		pairs = append(pairs, [2]api.Way{a, b})
	}
	return pairs
}

// follow is these ways, each with the one behind it, the last one with the first.
func follow(l []api.Way) [][2]api.Way {
	var pairs [][2]api.Way
	for i, a := range l {
		pairs = append(pairs, [2]api.Way{a, l[(i+1)%len(l)]})
	}
	return pairs
}

func TestRound(t *testing.T) {
	lists(30, func(l []api.Way) {
		handed := slices.Clone(l)
		wanted := follow(sorted(l))
		if got := around(l...); !slices.Equal(got, wanted) {
			t.Fatal(l, got)
		}
		if !slices.Equal(l, handed) {
			t.Fatal("what was handed in is changed", handed, l)
		}
	})
	if got := around(way(0, -3)); !slices.Equal(got, [][2]api.Way{{way(0, -3), way(0, -3)}}) {
		t.Error(got)
	}
}

func TestRoundIsLeftAndGoneOverAgain(t *testing.T) {
	l := few()
	wanted := follow(sorted(l))
	round := angle.Round(l...)
	clear(l) // what was handed in is not kept
	for n := range len(wanted) + 1 {
		var got [][2]api.Way
		for a, b := range round {
			if len(got) == n {
				break
			}
			got = append(got, [2]api.Way{a, b})
		}
		if !slices.Equal(got, wanted[:n]) {
			t.Error(n, got)
		}
	}
	for a := range round { // one within another
		for b := range round {
			if b != wanted[0][0] {
				t.Error(a, b)
			}
			break
		}
	}
}

// refused tells if these are a call's answers to a way that may not be.
func refused[T comparable](answer T, e api.Errno) bool {
	var nothing T
	return answer == nothing && e == api.ErrArg
}

func TestWaysThatMayNotBe(t *testing.T) {
	good := few()
	for _, w := range bad() {
		if !refused(angle.Quarter(w)) {
			t.Error(w)
		}
		for _, o := range append(good, bad()...) {
			if !refused(angle.Cmp(w, o)) || !refused(angle.Cmp(o, w)) || !refused(angle.Opposite(w, o)) || !refused(angle.Opposite(o, w)) {
				t.Error(w, o)
			}
			if !refused(angle.Between(w, o, o)) || !refused(angle.Between(o, w, o)) || !refused(angle.Between(o, o, w)) {
				t.Error(w, o)
			}
			if !refused(angle.Next(w, o)) || !refused(angle.Next(o, w)) {
				t.Error(w, o)
			}
		}
		if !refused(angle.Next(w)) || !refused(angle.Next(w, good...)) {
			t.Error(w)
		}
		for _, at := range []int{0, 7, len(good)} {
			l := slices.Insert(slices.Clone(good), at, w)
			if got, e := angle.Sort(l...); got != nil || e != api.ErrArg {
				t.Error(w, at, got, e)
			}
			if !refused(angle.Next(way(1, 1), l...)) {
				t.Error(w, at)
			}
			if got := around(l...); got != nil {
				t.Error(w, at, got)
			}
		}
	}
}
