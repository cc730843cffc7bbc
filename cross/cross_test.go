package cross_test

import (
	"iter"
	"slices"
	"testing"

	"merestone/api"
	"merestone/cross"
)

func TestMeetAndCrosses(t *testing.T) {
	var kinds [3]int
	crossed := 0
	pairs(func(s, o api.Seg) {
		facts := met(s, o)
		kinds[len(facts)]++
		if m, e := cross.Meet(s, o); m != told(facts) || e != api.OK {
			t.Fatal(s, o, m, e)
		}
		crosses := len(facts) == 1
		for _, end := range append(ends(s), ends(o)...) {
			crosses = crosses && order(facts[0], end) != 0
		}
		if crosses {
			crossed++
		}
		if is, e := cross.Crosses(s, o); is != crosses || e != api.OK {
			t.Fatal(s, o, is, e)
		}
	})
	if slices.Min(kinds[:]) == 0 || crossed == 0 || crossed == kinds[1] {
		t.Error("not all are there", kinds, crossed)
	}
}

func TestMeetAndCrossesRows(t *testing.T) {
	for _, c := range []struct {
		s, o    api.Seg
		p, q    string // none; one point; the ends of a piece
		crosses bool
	}{
		{piece(0, 0, 2, 2), piece(0, 2, 2, 0), "1 1", "", true},
		{piece(0, 0, 3, 1), piece(1, 1, 2, -1), "9/7 3/7", "", true},
		{piece(0, 0, -3, -1), piece(-1, -1, -2, 1), "-9/7 -3/7", "", true},
		{piece(0, 0, 0, 3), piece(-1, 1, 2, 2), "0 4/3", "", true},
		{piece(0, 0, 2, 2), piece(1, 1, 2, 0), "1 1", "", false},  // one ends on the other one
		{piece(1, 1, 2, 0), piece(0, 0, 2, 2), "1 1", "", false},  // and that on it
		{piece(0, 0, 2, 2), piece(5, -1, 1, 1), "1 1", "", false}, // by B
		{piece(0, 0, 2, 1), piece(2, 1, 3, 7), "2 1", "", false},  // both end there
		{piece(0, 0, 2, 1), piece(4, 2, 2, 1), "2 1", "", false},  // on one line
		{piece(0, 0, 0, 1), piece(0, 2, 0, 1), "0 1", "", false},  // upright
		{piece(0, 0, 2, 0), piece(1, 0, 3, 0), "1 0", "2 0", false},
		{piece(2, 0, 0, 0), piece(1, 0, 3, 0), "1 0", "2 0", false}, // against each other
		{piece(0, 3, 3, 0), piece(1, 2, 2, 1), "1 2", "2 1", false}, // downwards, one within the other one
		{piece(1, 2, 2, 1), piece(3, 0, 0, 3), "1 2", "2 1", false}, // and the other way round
		{piece(0, 3, 0, 0), piece(0, 1, 0, 7), "0 1", "0 3", false}, // upright
		{piece(4, 1, 0, 0), piece(0, 0, 4, 1), "0 0", "4 1", false}, // the same one
		{piece(0, 0, 1, 0), piece(0, 1, 1, 1), "", "", false},       // side by side
		{piece(0, 0, 1, 0), piece(2, 0, 3, 0), "", "", false},       // on one line
		{piece(0, 1, 0, 0), piece(0, 2, 0, 3), "", "", false},       // upright
		{piece(0, 0, 4, 4), piece(3, 2, 9, -7), "", "", false},      // one ends short of the other one
		{piece(3, 2, 9, -7), piece(0, 0, 4, 4), "", "", false},
		{piece(0, 0, 2, 2), piece(3, 3, 4, 0), "", "", false}, // on its line, but behind it
		{piece(-most, -most, most, most), piece(-most, most, most, -most), "0 0", "", true},
		{piece(-most, -most, most, most), piece(most, most, 0, 0), "0 0", "67108864 67108864", false},
		{piece(-most, -most, most, most-1), piece(1-most, -most, most, most), "67108864/268435455 -67108864/268435455", "", true},
		{piece(-most, -most, most, most-1), piece(-most, most, most-1, -most), "-67108864/36028796750528513 -18014398442373120/36028796750528513", "", true},
	} {
		var wanted api.Meet
		switch {
		case c.q != "":
			wanted = api.Meet{Kind: api.MeetPiece, P: at(c.p), Q: at(c.q)}
		case c.p != "":
			wanted = api.Meet{Kind: api.MeetPoint, P: at(c.p), Q: at(c.p)}
		}
		if m, e := cross.Meet(c.s, c.o); m != wanted || e != api.OK {
			t.Error(c.s, c.o, m, e)
		}
		if is, e := cross.Crosses(c.s, c.o); is != c.crosses || e != api.OK {
			t.Error(c.s, c.o, is, e)
		}
	}
}

func TestMeetAndCrossesOfWhatMayNotBe(t *testing.T) {
	refused := func(s, o api.Seg) {
		if m, e := cross.Meet(s, o); m != (api.Meet{}) || e != api.ErrArg {
			t.Error(s, o, m, e)
		}
		if is, e := cross.Crosses(s, o); is || e != api.ErrArg {
			t.Error(s, o, is, e)
		}
	}
	for _, s := range wrong() {
		refused(s, piece(0, 0, 2, 1))
		refused(piece(-1, 3, 1, -3), s)
		refused(s, s)
	}
}

// texts are the points of these texts.
func texts(l ...string) []api.Point {
	var points []api.Point
	for _, text := range l {
		points = append(points, at(text))
	}
	return points
}

// A gone is a piece that was gone over.
type gone struct{ p, q api.Point }

// follow are the pieces between points that follow one another.
func follow(points []api.Point) []gone {
	var l []gone
	for i := 1; i < len(points); i++ {
		l = append(l, gone{points[i-1], points[i]})
	}
	return l
}

// some are the pieces that are gone over, left after so many, but for 0.
func some(pieces iter.Seq2[api.Point, api.Point], many int) []gone {
	var l []gone
	for p, q := range pieces {
		if l = append(l, gone{p, q}); len(l) == many {
			break
		}
	}
	return l
}

func TestPointsAndPieces(t *testing.T) {
	lists(20, func(s api.Seg, l []api.Seg) {
		wanted := points(s, l)
		if got, e := cross.Points(s, l...); !slices.Equal(got, wanted) || e != api.OK {
			t.Fatal(s, l, got, e)
		}
		if got := some(cross.Pieces(s, l...), 0); !slices.Equal(got, follow(wanted)) {
			t.Fatal(s, l, got)
		}
	})
}

func TestPointsAndPiecesRows(t *testing.T) {
	for _, c := range []struct {
		s    api.Seg
		l    []api.Seg
		want []api.Point
	}{
		{piece(0, 0, 2, 2), nil, texts("0 0", "2 2")},
		{piece(2, 2, 0, 0), []api.Seg{}, texts("0 0", "2 2")},
		{piece(0, 1, 0, -1), nil, texts("0 -1", "0 1")},
		{piece(2, 2, 0, 0), []api.Seg{piece(2, 2, 0, 0), piece(0, 0, 2, 2)}, texts("0 0", "2 2")},
		{piece(0, 0, 2, 2), []api.Seg{piece(5, 5, 7, 8), piece(3, 3, 4, 4)}, texts("0 0", "2 2")}, // none meets it
		{piece(0, 0, 2, 2), []api.Seg{piece(0, 2, 2, 0), piece(1, 0, 1, 5), piece(1, 1, 7, 1)}, texts("0 0", "1 1", "2 2")},
		{piece(3, 0, 0, 0), []api.Seg{piece(2, 0, 1, 0)}, texts("0 0", "1 0", "2 0", "3 0")},
		{piece(0, 0, 3, 0), []api.Seg{piece(5, 0, 1, 0), piece(-1, 0, 2, 0)}, texts("0 0", "1 0", "2 0", "3 0")},
		{piece(0, 3, 0, 0), []api.Seg{piece(-1, 1, 2, 2), piece(0, 7, 0, 2), piece(0, 1, 5, 5)}, texts("0 0", "0 1", "0 4/3", "0 2", "0 3")},
		{piece(0, 3, 3, 0), []api.Seg{piece(0, 0, 3, 2), piece(0, 0, 1, 1), piece(0, 0, 2, 3)}, texts("0 3", "6/5 9/5", "9/5 6/5", "3 0")},
	} {
		if got, e := cross.Points(c.s, c.l...); !slices.Equal(got, c.want) || e != api.OK {
			t.Error(c.s, c.l, got, e)
		}
		if got := some(cross.Pieces(c.s, c.l...), 0); !slices.Equal(got, follow(c.want)) {
			t.Error(c.s, c.l, got)
		}
	}
}

func TestPointsAndPiecesOfWhatMayNotBe(t *testing.T) {
	refused := func(s api.Seg, l ...api.Seg) {
		if got, e := cross.Points(s, l...); got != nil || e != api.ErrArg {
			t.Error(s, l, got, e)
		}
		if got := some(cross.Pieces(s, l...), 0); len(got) != 0 {
			t.Error(s, l, got)
		}
	}
	good := piece(0, 0, 2, 2)
	for _, s := range wrong() {
		refused(s)
		refused(s, good, piece(0, 2, 2, 0))
		refused(good, s)
		refused(good, s, good, piece(0, 2, 2, 0))
		refused(good, piece(0, 2, 2, 0), s, good)
		refused(good, piece(0, 2, 2, 0), piece(9, 9, 10, 10), s)
		refused(s, s)
	}
}

// fence is a segment that many others cross.
func fence() (s api.Seg, l []api.Seg) {
	for x := range int64(9) {
		l = append(l, piece(9-x, -1, 8-x, 2))
	}
	return piece(10, 0, 0, 0), l
}

func TestPiecesAreLeftAndGoneOverAgain(t *testing.T) {
	s, l := fence()
	wanted := follow(points(s, l))
	pieces := cross.Pieces(s, l...)
	for many := range wanted {
		if got := some(pieces, many+1); !slices.Equal(got, wanted[:many+1]) {
			t.Error(many, got)
		}
		if got := some(pieces, 0); !slices.Equal(got, wanted) {
			t.Error("again", many, got)
		}
	}
	for range pieces { // one within the other
		if got := some(pieces, 0); !slices.Equal(got, wanted) {
			t.Error(got)
		}
	}
}

// What is handed in is neither kept nor changed, nor is the spare room behind it; an answer is new memory.
func TestNothingIsKept(t *testing.T) {
	s, room := fence()
	kept := slices.Clone(room)
	l := room[:4]
	wanted := points(s, l)
	pieces := cross.Pieces(s, l...)
	one, _ := cross.Points(s, l...)
	other, _ := cross.Points(s, l...)
	if !slices.Equal(room, kept) {
		t.Error("changed", room)
	}
	clear(one)
	clear(room)
	if !slices.Equal(other, wanted) {
		t.Error(other)
	}
	if got := some(pieces, 0); !slices.Equal(got, follow(wanted)) {
		t.Error(got)
	}
}
