package level_test

import (
	"math/big"
	"slices"
	"testing"

	"merestone/api"
	"merestone/level"
	"merestone/ratio"
)

// flawOf is the error that a segment at an x gives to who wants a height.
func flawOf(s api.Seg, x *big.Rat) api.Errno {
	switch {
	case !spans(s, x):
		return api.ErrRange
	case upright(s):
		return api.ErrUpright
	}
	return api.OK
}

func TestSpansAndAt(t *testing.T) {
	told := map[api.Errno]int{}
	each(func(s api.Seg, x *big.Rat) {
		if is, e := level.Spans(s, fraction(x)); is != spans(s, x) || e != api.OK {
			t.Fatal(s, x, is, e)
		}
		wanted := flawOf(s, x)
		told[wanted]++
		y, e := level.At(s, fraction(x))
		switch {
		case e != wanted:
			t.Fatal(s, x, e)
		case wanted != api.OK && y != api.Rat{}:
			t.Fatal(s, x, y)
		case wanted == api.OK && y != fraction(height(s, x)):
			t.Fatal(s, x, y)
		}
	})
	if len(told) != 3 {
		t.Error("not all are there", told)
	}
}

func TestAtRows(t *testing.T) {
	for _, c := range []struct {
		s    api.Seg
		x, y string
		e    api.Errno
	}{
		{piece(0, 0, 4, 2), "1", "1/2", api.OK}, {piece(4, 2, 0, 0), "1", "1/2", api.OK}, {piece(0, 0, 4, 2), "0", "0", api.OK}, {piece(0, 0, 4, 2), "4", "2", api.OK},
		{piece(0, 0, 0, 2), "0", "", api.ErrUpright}, {piece(0, 0, 4, 2), "5", "", api.ErrRange}, {piece(0, 0, 4, 2), "-1", "", api.ErrRange}, {piece(0, 0, 0, 2), "1", "", api.ErrRange},
		{piece(0, 0, 4, 2), "73786976294838206459/18446744073709551615", "73786976294838206459/36893488147419103230", api.OK}, {piece(0, 0, 4, 2), "73786976294838206461/18446744073709551615", "", api.ErrRange},
		{piece(0, 0, 4, 2), "-1/18446744073709551615", "", api.ErrRange}, {piece(0, 5, 3, 5), "7/5", "5", api.OK}, {piece(0, 5, 3, 4), "1", "14/3", api.OK}, {piece(-1, 0, 2, -7), "-1/2", "-7/6", api.OK},
		{piece(-most, -most, most, most-1), "0", "-1/2", api.OK}, {piece(-most, most, most, 1-most), "1/18446744073709551615", "1237940039285380274697797633/2475880078570760549664030720", api.OK},
	} {
		x := fraction(number(c.x))
		var wanted api.Rat
		if c.e == api.OK {
			wanted = fraction(number(c.y))
		}
		if y, e := level.At(c.s, x); y != wanted || e != c.e {
			text, _ := ratio.Text(y)
			t.Error(c, text, e)
		}
	}
}

func TestAbove(t *testing.T) {
	told := map[int]int{}
	each(func(s api.Seg, x *big.Rat) {
		rows := []*big.Rat{whole(0), whole(1), whole(3), whole(-7), whole(most), whole(-most), number("1/2"), number("5/2"), number("79228162514264337593543950335"), number("-79228162514264337593543950334/18446744073709551615")}
		for _, y := range []int64{s.A.Y, s.B.Y} {
			rows = append(rows, whole(y), new(big.Rat).Add(whole(y), number("1/1073741824")), new(big.Rat).Sub(whole(y), number("1/1073741824")))
		}
		if flawOf(s, x) == api.OK {
			if y := height(s, x); fits(y) {
				rows = append(rows, y)
			}
		}
		for _, y := range rows {
			p := api.Point{X: fraction(x), Y: fraction(y)}
			n, e := level.Above(s, p)
			switch {
			case !spans(s, x):
				if n != 0 || e != api.ErrRange {
					t.Fatal(s, x, y, n, e)
				}
			case n != above(s, x, y) || e != api.OK:
				t.Fatal(s, x, y, n, e)
			default:
				told[n]++
			}
		}
	})
	if len(told) != 3 {
		t.Error("not all are there", told)
	}
}

func TestAboveRows(t *testing.T) {
	for _, c := range []struct {
		s    api.Seg
		p    string
		want int
		e    api.Errno
	}{
		{piece(0, 0, 4, 2), "2 2", 1, api.OK}, {piece(4, 2, 0, 0), "2 2", 1, api.OK}, {piece(0, 0, 4, 2), "2 1", 0, api.OK}, {piece(0, 0, 4, 2), "2 1/2", -1, api.OK}, {piece(4, 2, 0, 0), "1/3 1/7", -1, api.OK},
		{piece(0, 0, 0, 2), "0 1", 0, api.OK}, {piece(0, 2, 0, 0), "0 0", 0, api.OK}, {piece(0, 0, 0, 2), "0 2", 0, api.OK}, {piece(0, 2, 0, 0), "0 5/2", 1, api.OK}, {piece(0, 0, 0, 2), "0 -1/2", -1, api.OK},
		{piece(0, 0, 0, 2), "1/2 1", 0, api.ErrRange}, {piece(0, 0, 4, 2), "5 1", 0, api.ErrRange}, {piece(0, 0, 4, 2), "-1 -1/2", 0, api.ErrRange}, {piece(0, 0, 4, 2), "0 0", 0, api.OK}, {piece(0, 0, 4, 2), "4 2", 0, api.OK},
		{piece(0, 0, 4, 2), "4 18446744073709551616", 1, api.OK}, {piece(0, 0, 0, 2), "0 -18446744073709551616", -1, api.OK}, {piece(-most, -most, most, most-1), "0 -1/2", 0, api.OK},
	} {
		if n, e := level.Above(c.s, at(c.p)); n != c.want || e != c.e {
			t.Error(c, n, e)
		}
	}
}

func TestSlope(t *testing.T) {
	for _, s := range segments() {
		got, e := level.Slope(s)
		switch {
		case upright(s):
			if got != (api.Rat{}) || e != api.ErrUpright {
				t.Error(s, got, e)
			}
		case got != fraction(slope(s)) || e != api.OK:
			t.Error(s, got, e)
		}
	}
	for _, c := range []struct {
		s    api.Seg
		want string
	}{
		{piece(0, 0, 4, 2), "1/2"}, {piece(4, 2, 0, 0), "1/2"}, {piece(1, 7, 3, 7), "0"}, {piece(3, 0, 0, 3), "-1"}, {piece(-most, most, most, 1-most), "-134217727/134217728"}, {piece(7, most, 8, -most), "-134217728"},
	} {
		if got, e := level.Slope(c.s); got != fraction(number(c.want)) || e != api.OK {
			t.Error(c, got, e)
		}
	}
}

func TestLower(t *testing.T) {
	told := map[int]int{}
	all := segments()
	for _, x := range columns() {
		at := fraction(x)
		for i, s := range all {
			for _, o := range all[i%5*len(all)/5 : (i%5+1)*len(all)/5] {
				wanted, n := max(flawOf(s, x), flawOf(o, x)), 0 // as long as none is both
				if flawOf(s, x) == api.ErrRange || flawOf(o, x) == api.ErrRange {
					wanted = api.ErrRange
				}
				if wanted == api.OK {
					n = lower(s, o, x)
					told[n]++
				}
				if got, e := level.Lower(s, o, at); got != n || e != wanted {
					t.Fatal(s, o, x, got, e)
				}
			}
		}
	}
	if len(told) != 3 {
		t.Error("not all are there", told)
	}
}

func TestLowerRows(t *testing.T) {
	for _, c := range []struct {
		s, o api.Seg
		x    string
		want int
		e    api.Errno
	}{
		{piece(0, 0, 4, 2), piece(0, 0, 4, 4), "0", -1, api.OK}, {piece(4, 4, 0, 0), piece(0, 0, 4, 2), "0", 1, api.OK}, {piece(0, 0, 4, 2), piece(8, 4, 0, 0), "3", 0, api.OK},
		{piece(0, 0, 4, 2), piece(4, 2, 0, 0), "4", 0, api.OK}, {piece(0, 2, 2, 0), piece(0, 0, 2, 2), "1", -1, api.OK}, {piece(0, 2, 2, 0), piece(0, 0, 2, 2), "3/2", -1, api.OK}, {piece(0, 2, 2, 0), piece(0, 0, 2, 2), "1/2", 1, api.OK},
		{piece(0, 2, 2, 0), piece(0, 0, 2, 2), "18446744073709551614/18446744073709551615", 1, api.OK},
		{piece(-most, -most, most, most-1), piece(-most, -most, most, most), "-67108864", -1, api.OK}, {piece(-most, -most, most-1, most), piece(-most, -most, most, most), "-67108864", 1, api.OK},
		{piece(-most, 0, most, 1), piece(1-most, 0, most, 1), "67108864", -1, api.OK},                        // by slopes that are nearly the same
		{piece(0, 0, 0, 2), piece(0, 0, 4, 2), "1", 0, api.ErrRange},                                         // the first is upright too
		{piece(0, 0, 0, 2), piece(1, 0, 4, 2), "0", 0, api.ErrRange},                                         // the first is upright, but that is told later
		{piece(0, 0, 0, 2), piece(0, 0, 4, 2), "0", 0, api.ErrUpright},                                       //
		{piece(0, 0, 4, 2), piece(0, 0, 0, 2), "0", 0, api.ErrUpright},                                       //
		{piece(0, 0, 4, 2), piece(0, 0, 4, 2), "5", 0, api.ErrRange},                                         //
		{piece(0, 0, 4, 2), piece(1, 1, 1, 1), "5", 0, api.ErrArg},                                           // the first does not span it, but that is told later
		{piece(0, 0, 0, 2), piece(most+1, 1, 1, 1), "5", 0, api.ErrArg},                                      //
		{piece(0, 0, 4, 2), piece(0, 1, 4, 2), "18446744073709551616/18446744073709551615", -1, api.OK},      // between nodes
		{piece(0, 0, 4, 2), piece(0, 1, 4, 2), "73786976294838206459/18446744073709551615", -1, api.OK},      // close beside where they meet
		{piece(0, 0, 4, 2), piece(0, 1, 4, 2), "73786976294838206461/18446744073709551615", 0, api.ErrRange}, // and behind
	} {
		if n, e := level.Lower(c.s, c.o, fraction(number(c.x))); n != c.want || e != c.e {
			t.Error(c, n, e)
		}
	}
}

func TestSort(t *testing.T) {
	moved := 0
	lists(24, func(x *big.Rat, l []api.Seg) {
		handed := slices.Clone(l)
		wanted := slices.Clone(l)
		slices.SortStableFunc(wanted, func(s, o api.Seg) int { return lower(s, o, x) })
		if !slices.Equal(l, wanted) {
			moved++
		}
		got, e := level.Sort(fraction(x), l...)
		if !slices.Equal(got, wanted) || e != api.OK {
			t.Fatal(x, l, got, e)
		}
		for i := range got {
			got[i] = api.Seg{}
		}
		if !slices.Equal(l, handed) {
			t.Fatal("what was handed in is changed", x, handed, l)
		}
	})
	if moved == 0 {
		t.Error("all were sorted")
	}
}

func TestSortLeavesSpareRoom(t *testing.T) {
	room := []api.Seg{piece(0, 4, 4, 4), piece(0, 0, 4, 0), piece(0, 7, 4, 7), piece(0, 1, 4, 1)}
	kept := slices.Clone(room)
	if got, e := level.Sort(ratio.Of(1), room[:2]...); !slices.Equal(got, []api.Seg{kept[1], kept[0]}) || e != api.OK || !slices.Equal(room, kept) {
		t.Error(got, e, room)
	}
}

func TestSortRows(t *testing.T) {
	low, high, steep := piece(0, 0, 4, 0), piece(0, 3, 4, 3), piece(0, 0, 4, 8)
	for _, c := range []struct {
		x       string
		l, want []api.Seg
		e       api.Errno
	}{
		{"0", nil, nil, api.OK}, {"0", []api.Seg{}, nil, api.OK}, {"1", []api.Seg{high}, []api.Seg{high}, api.OK},
		{"0", []api.Seg{high, steep, low}, []api.Seg{low, steep, high}, api.OK}, {"4", []api.Seg{high, steep, low}, []api.Seg{low, high, steep}, api.OK}, {"3/2", []api.Seg{steep, high, low}, []api.Seg{low, high, steep}, api.OK},
		{"1", []api.Seg{high, turned(low), piece(-1, 0, 9, 0), low}, []api.Seg{turned(low), piece(-1, 0, 9, 0), low, high}, api.OK}, // in their order, as they came
		{"0", []api.Seg{high, low, piece(0, 0, 0, 1)}, nil, api.ErrUpright}, {"1", []api.Seg{high, low, piece(0, 0, 0, 1)}, nil, api.ErrRange},
		{"0", []api.Seg{piece(0, 0, 0, 1), low, piece(1, 0, 2, 0)}, nil, api.ErrRange}, {"0", []api.Seg{piece(0, 0, 0, 1), piece(1, 0, 2, 0), {}}, nil, api.ErrArg},
	} {
		if got, e := level.Sort(fraction(number(c.x)), c.l...); !slices.Equal(got, c.want) || e != c.e {
			t.Error(c, got, e)
		}
	}
}

// asked is each call's error.
func asked(s, o api.Seg, p api.Point) map[string]api.Errno {
	told := map[string]api.Errno{}
	is, e := level.Spans(s, p.X)
	told["spans"] = zero(is, e)
	y, e := level.At(s, p.X)
	told["at"] = zero(y, e)
	n, e := level.Above(s, p)
	told["above"] = zero(n, e)
	n, e = level.Lower(s, o, p.X)
	told["lower"] = zero(n, e)
	l, e := level.Sort(p.X, s, o)
	told["sort"] = zero(len(l), e)
	l, e = level.Sort(p.X)
	told["sort of none"] = zero(len(l), e)
	return told
}

// zero is the error, if beside one there is nothing.
func zero[T comparable](answer T, e api.Errno) api.Errno {
	var nothing T
	if e != api.OK && answer != nothing {
		return -1
	}
	return e
}

func TestSegmentsThatMayNotBe(t *testing.T) {
	good := piece(0, 0, 4, 2)
	for _, s := range badSegments() {
		for _, p := range []api.Point{at("1 1"), at("0 0"), at("99 1/2"), {}} {
			for call, e := range asked(s, good, p) {
				if e != api.ErrArg && (call != "sort of none" || p == api.Point{}) {
					t.Error(call, s, p, e)
				}
			}
			turn := asked(good, s, p)
			if turn["lower"] != api.ErrArg || turn["sort"] != api.ErrArg {
				t.Error(turn, s, p)
			}
		}
		if x, e := level.Slope(s); x != (api.Rat{}) || e != api.ErrArg {
			t.Error(s, x, e)
		}
	}
}

func TestNumbersThatMayNotBe(t *testing.T) {
	good := at("1 1").X
	for _, x := range badNumbers() {
		for _, s := range []api.Seg{piece(0, 0, 4, 2), piece(0, 0, 0, 2), piece(2, 0, 4, 2), {}} {
			for call, e := range asked(s, s, api.Point{X: x, Y: good}) {
				if e != api.ErrArg {
					t.Error(call, s, x, e)
				}
			}
			if n, e := level.Above(s, api.Point{X: good, Y: x}); n != 0 || e != api.ErrArg {
				t.Error(s, x, n, e)
			}
		}
	}
}
