package wkt_test

import (
	"iter"
	"slices"
	"strings"
	"testing"

	"merestone/api"
	"merestone/wkt"
)

func TestCheck(t *testing.T) {
	for _, s := range good() {
		if e := wkt.Check(s); e != api.OK || check(s) != e {
			t.Error(s, e)
		}
	}
	for _, s := range wrong() {
		if e := wkt.Check(s); e != api.ErrArg || check(s) != e {
			t.Error(s, e)
		}
	}
	for _, s := range long() {
		if e := wkt.Check(s); e != api.ErrLong || check(s) != e {
			t.Error(len(s.Rings), e)
		}
	}
	segment := line(0, 0, 1, 2)
	segment.Rings = [][]api.Node{} // as if there were none
	if e := wkt.Check(segment); e != api.OK {
		t.Error(e)
	}
}

func TestText(t *testing.T) {
	for _, s := range good() {
		if got, e := wkt.Text(s); got != text(s) || e != api.OK {
			t.Error(s, got, e)
		}
	}
	for _, s := range slices.Concat(wrong(), long()) {
		if got, e := wkt.Text(s); got != "" || e != check(s) {
			t.Error(s, got, e)
		}
	}
	for _, c := range []struct {
		s    api.Shape
		want string
	}{
		{line(0, 0, 1, 2), "SEGMENT(0 0,1 2)"}, {line(1, -2, 0, 0), "SEGMENT(1 -2,0 0)"}, {line(most, -most, -most, most), "SEGMENT(67108864 -67108864,-67108864 67108864)"},
		{area(nodes(0, 0, 2, 0, 0, 2)), "POLYGON((0 0,2 0,0 2,0 0))"}, {area(nodes(0, 2, -2, 0, 0, 0)), "POLYGON((0 2,-2 0,0 0,0 2))"}, {area(nodes(1, 1, 1, 1, 1, 1)), "POLYGON((1 1,1 1,1 1,1 1))"},
		{area(nodes(0, 0, 4, 0, 4, 4, 0, 4), nodes(1, 1, 1, 3, 3, 3)), "POLYGON((0 0,4 0,4 4,0 4,0 0),(1 1,1 3,3 3,1 1))"}, {area(nodes(0, 0, 1, 0, 0, 0)), "POLYGON((0 0,1 0,0 0,0 0))"},
	} {
		if got, e := wkt.Text(c.s); got != c.want || e != api.OK {
			t.Error(c.s, got, e)
		}
		if got, e := wkt.Parse(c.want); !alike(got, c.s) || e != api.OK {
			t.Error(c.want, got, e)
		}
	}
}

// parsed holds what is told of a text against what is to be told.
func parsed(t *testing.T, text string) api.Errno {
	t.Helper()
	wanted, why := parse(text)
	got, e := wkt.Parse(text)
	if e != why || !alike(got, wanted) || e != api.OK && !isNought(got) {
		t.Errorf("%q %v %d %d", text[:min(len(text), 300)], got, e, why)
	}
	return why
}

func TestParse(t *testing.T) {
	for _, s := range good() {
		got, e := wkt.Parse(text(s))
		if !alike(got, s) || e != api.OK {
			t.Error(s, got, e)
		}
		if s.IsSeg && got.Rings != nil {
			t.Error("a segment has rings", s)
		}
		parsed(t, text(s))
	}
	for _, s := range long() {
		if e := parsed(t, text(s)); e != api.ErrLong {
			t.Error(len(s.Rings), e)
		}
	}
}

func TestParseOfNoText(t *testing.T) {
	many := strings.Repeat("9", 1<<16)
	for _, s := range []string{
		"", " ", "(", ")", "()", ",", "SEGMENT", "POLYGON", "SEGMENT(", "POLYGON(", "SEGMENT()", "POLYGON()", "POLYGON(()", "POLYGON(())", "POLYGON((),())", "SEGMENT(,)", "POLYGON((,,,))", "MULTIPOLYGON EMPTY", "POLYGON EMPTY", "MULTIPOLYGON(((0 0,2 0,0 2,0 0)))",
		"SEGMENT(0 0,0 0)", "SEGMENT(67108864 1,67108864 1)", "SEGMENT(0 0)", "SEGMENT(0 0,1 1,2 2)", "SEGMENT(0 0,1 1", "SEGMENT0 0,1 1", "SEGMENT(0 0,1 1))", "SEGMENT((0 0,1 1))", "SEGMENT((0 0),(1 1))", "SEGMENT(0 0,1 1),", "SEGMENT(0 0,1 1)(", "(0 0,1 1)", "0 0,1 1",
		"segment(0 0,1 1)", "Segment(0 0,1 1)", "SEGMENt(0 0,1 1)", "SEGMENT (0 0,1 1)", " SEGMENT(0 0,1 1)", "SEGMENT(0 0,1 1) ", "SEGMENT(0 0,1 1)\n", "SEGMENT( 0 0,1 1)", "SEGMENT(0 0,1 1 )", "SEGMENT(0 0, 1 1)", "SEGMENT(0  0,1 1)", "SEGMENT(0 0,1 1)\x00", "SEGMENTS(0 0,1 1)", "POLYGONSEGMENT(0 0,1 1)", "SEGMENT[0 0,1 1]", "POLYGON(0 0,1 1)", "SEGMENT(0 0,1 1)SEGMENT(0 0,1 1)",
		"POLYGON((0 0,2 0,0 2))", "POLYGON ((0 0,2 0,0 2,0 0))", "polygon((0 0,2 0,0 2,0 0))", "POLYGON((0 0,2 0,0 2,0 0)", "POLYGON(0 0,2 0,0 2,0 0)", "POLYGON(0 0,2 0,0 2,0 0))", "POLYGON(((0 0,2 0,0 2,0 0)))", "POLYGON((0 0,2 0,0 2,0 0)),", "POLYGON((0 0,2 0,0 2,0 0),)", "POLYGON(,(0 0,2 0,0 2,0 0))", "POLYGON((0 0,2 0,0 2,0 0)))", "POLYGON((0 0,2 0,0 2,0 0)) ", "POLYGON((0 0,2 0,0 2,0 0),())",
		"POLYGON((0 0,2 0,0 2,0 0,))", "POLYGON((,0 0,2 0,0 2,0 0))", "POLYGON((0 0,2 0,,0 2,0 0))", "POLYGON((0 0, 2 0,0 2,0 0))", "POLYGON((0 0,2 0,0 2,0 0),(1 1,2 1,1 2))", "POLYGON((0 0,2 0,0 2,0 0)(0 0,2 0,0 2,0 0))", "POLYGON((0 0,2 0,0 2,0 0), (0 0,2 0,0 2,0 0))", "POLYGON((0 0,2 0,0 2,0 0)),((0 0,2 0,0 2,0 0))", "SEGMENT((0 0,2 0,0 2,0 0))", "((0 0,2 0,0 2,0 0))",
		"POLYGON((0 0))", "POLYGON((0 0,0 0))", "POLYGON((0 0,1 0,0 0))", "POLYGON((0 0,0 0,0 0))", "POLYGON((0 0,2 0,0 2,0 0),(0 0,1 0,0 0))", "POLYGON((0 0,1 0,0 0),(0 0,2 0,0 2,0 0))", // too few corners
		"POLYGON((0 0,2 0,0 2,0 1))", "POLYGON((0 0,2 0,0 2,1 0))", "POLYGON((0 0,2 0,0 2,2 0))", "POLYGON((0 0,2 0,0 2,0 0,2 0))", "POLYGON((0 0,2 0,0 2,0 0),(1 1,2 0,0 2,0 0))", // another one behind the last
		"POLYGON((1/2 0,2 0,0 2,1/2 0))", "SEGMENT(0 0,1/2 1)", "POLYGON((0/1 0,2 0,0 2,0/1 0))", "POLYGON((0 0,2/1 0,0 2,0 0))", // points
		"POLYGON((0 0,02 0,0 2,0 0))", "POLYGON((0 0,+2 0,0 2,0 0))", "POLYGON((-0 0,2 0,0 2,-0 0))", "POLYGON((0 0,2 -,0 2,0 0))", "POLYGON((0 0,2 0 0,0 2,0 0))", "POLYGON((0 0,2,0 2,0 0))", "POLYGON((0 0,2.0 0,0 2,0 0))", "POLYGON((0 0,2e0 0,0 2,0 0))", "POLYGON((0 0,2\t0,0 2,0 0))", "POLYGON((0 0,\u0662 0,0 2,0 0))", "POLYGON((0 0,2 0;0 2,0 0))", "POLYGON((0 0,2\u00a00,0 2,0 0))", "POLYGON((0 0,2 0\uff0c0 2,0 0))",
		"POLYGON((0 0,67108865 0,0 2,0 0))", "POLYGON((0 0,2 0,0 -67108865,0 0))", "SEGMENT(0 0,67108865 0)", "SEGMENT(-67108865 0,0 0)", "POLYGON((0 0,18446744073709551616 0,0 2,0 0))", "POLYGON((0 0,4294967296 0,0 2,0 0))", "SEGMENT(0 0,18446744073709551617 1)", "SEGMENT(0 0,79228162514264337593543950336 1)", // too far
		"SEGMENT(0 0," + many + " 0)", "SEGMENT(" + many + ")", "POLYGON((" + many + " 0,2 0,0 2," + many + " 0))", many, strings.Repeat("(", 1<<16), "POLYGON" + strings.Repeat("(", 1<<16), "POLYGON((" + strings.Repeat("0 0,", 1<<16), "POLYGON((" + strings.Repeat(",", 1<<16), "POLYGON((" + strings.Repeat(" ", 1<<16), strings.Repeat("POLYGON", 1<<14),
		"\xff", "POLYGON((0 0,2 0,0 2,0 0))\xff", "POLYGON((0 0,2 \xff0,0 2,0 0))", "SEGMENT(0 0,1 1\xc3)", "\ufeffSEGMENT(0 0,1 1)",
	} {
		if got, e := wkt.Parse(s); !isNought(got) || e != api.ErrWkt {
			t.Errorf("%q %v %d", s[:min(len(s), 300)], got, e)
		}
		parsed(t, s)
	}
}

// Of each text one byte is left out, put in or put in the place of another one.
func TestParseOfTextsByteByByte(t *testing.T) {
	const bytes = "SEGMNTPOLY(), -/+.0123456789\n\x00\xff"
	told := map[api.Errno]int{}
	for _, s := range []string{
		"SEGMENT(0 0,1 2)", "SEGMENT(67108864 -67108864,-5 10)", "POLYGON((0 0,2 0,0 2,0 0))", "POLYGON((0 0,-1 0,0 0,0 0),(10 1,1 3,3 -3,10 1))", "POLYGON((1 1,1 1,1 1,1 1,1 1))", "POLYGON((-67108864 6,67108864 7,8 -67108863,-67108864 6))",
	} {
		for at := range len(s) + 1 {
			for _, b := range []byte(bytes) {
				told[parsed(t, s[:at]+string([]byte{b})+s[at:])]++
				if at < len(s) {
					told[parsed(t, s[:at]+string([]byte{b})+s[at+1:])]++
				}
			}
			parsed(t, s[:at])
			parsed(t, s[at:])
			if at < len(s) {
				parsed(t, s[:at]+s[at+1:])
			}
		}
	}
	if told[api.OK] < 100 || told[api.ErrWkt] < 1000 {
		t.Error("not all are there", told)
	}
}

// Texts are put together of words as it comes.
func TestParseOfWords(t *testing.T) {
	draw := drawn()
	told := map[api.Errno]int{}
	for range 100000 {
		s := []string{"POLYGON((", "POLYGON((0 0,", "SEGMENT(", "POLYGON("}[draw(4)]
		for range draw(9) {
			s += []string{"0 0", ",", "),(", ")", "(", "1 0,0 0", "0 0,", "2 3,"}[draw(8)]
		}
		told[parsed(t, s+[]string{"", ")", "0 0))", "))"}[draw(4)])]++
	}
	if told[api.OK] < 100 || told[api.ErrWkt] < 1000 {
		t.Error("not all are there", told)
	}
}

// A text that is too long is told ahead of one that is no shape's, that ahead of too many corners.
func TestParseOfLongTexts(t *testing.T) {
	many := text(area(around(513)))
	many = many[:len(many)-1]
	for _, c := range []struct {
		s    string
		want api.Errno
	}{
		{strings.Repeat("x", 1<<20), api.ErrWkt}, {strings.Repeat("x", 1<<20+1), api.ErrLong}, {strings.Repeat("(", 1<<21), api.ErrLong}, {"SEGMENT(0 0,1 1)" + strings.Repeat(" ", 1<<20-16), api.ErrWkt}, {"SEGMENT(0 0,1 1)" + strings.Repeat(" ", 1<<20-15), api.ErrLong},
		{"POLYGON((" + strings.Repeat("0 0,", 1<<18-4) + "0 10))", api.ErrWkt}, {"POLYGON((" + strings.Repeat("0 0,", 1<<18-4) + "0 0))x", api.ErrWkt}, {"POLYGON((" + strings.Repeat("0 0,", 1<<18-4) + "0 0))", api.ErrLong},
		{"SEGMENT(0 0," + strings.Repeat("1", 1<<20-15) + " 0)", api.ErrWkt}, {"SEGMENT(0 0," + strings.Repeat("1", 1<<20-14) + " 0)", api.ErrLong},
		{many + ")", api.ErrLong}, {many, api.ErrWkt}, {many + "))", api.ErrWkt}, {many + ",)", api.ErrWkt}, {many + ",(0 0,1 0,0 0))", api.ErrWkt}, {many + ",(0 0,1 0,0 2,0 1))", api.ErrWkt}, {many + ",(0 0,1 0,0 67108865,0 0))", api.ErrWkt}, {many + ",(0 0,1 0,0 2,0 0))", api.ErrLong}, {many + ") ", api.ErrWkt},
		{"POLYGON(" + strings.Repeat("(0 0,1 0,0 1,0 0),", 170) + "(0 0,1 0,0 1,0 0))", api.ErrLong}, {"POLYGON(" + strings.Repeat("(0 0,1 0,0 1,0 0),", 169) + "(0 0,1 0,0 1,0 0))", api.OK}, {"POLYGON((0 0,1 0,0 0)," + many[8:] + ")", api.ErrWkt},
	} {
		if got, e := wkt.Parse(c.s); e != c.want || e != api.OK && !isNought(got) {
			t.Error(len(c.s), c.s[:30], e, c.want)
		}
	}
}

func TestMulti(t *testing.T) {
	three, hole := points("0 0,4 0,0 4"), points("1 1,1 2,2 1")
	for _, c := range []struct {
		m    api.Multi
		want string
	}{
		{nil, "MULTIPOLYGON EMPTY"}, {api.Multi{}, "MULTIPOLYGON EMPTY"},
		{api.Multi{{three}}, "MULTIPOLYGON(((0 0,4 0,0 4,0 0)))"}, {api.Multi{{three, hole}}, "MULTIPOLYGON(((0 0,4 0,0 4,0 0),(1 1,1 2,2 1,1 1)))"}, {api.Multi{{three}, {hole}}, "MULTIPOLYGON(((0 0,4 0,0 4,0 0)),((1 1,1 2,2 1,1 1)))"},
		{api.Multi{{hole, three, hole}, {three}, {hole, hole}}, "MULTIPOLYGON(((1 1,1 2,2 1,1 1),(0 0,4 0,0 4,0 0),(1 1,1 2,2 1,1 1)),((0 0,4 0,0 4,0 0)),((1 1,1 2,2 1,1 1),(1 1,1 2,2 1,1 1)))"},
		{api.Multi{{points("1/2 -3,-7/3 5/2,0 1/18446744073709551615,9 9")}}, "MULTIPOLYGON(((1/2 -3,-7/3 5/2,0 1/18446744073709551615,9 9,1/2 -3)))"},
		{api.Multi{{points("79228162514264337593543950335 0,-79228162514264337593543950335 -1/18446744073709551615,67108865 -67108865")}}, "MULTIPOLYGON(((79228162514264337593543950335 0,-79228162514264337593543950335 -1/18446744073709551615,67108865 -67108865,79228162514264337593543950335 0)))"},
		{api.Multi{{points("1 1,1 1,1 1")}}, "MULTIPOLYGON(((1 1,1 1,1 1,1 1)))"}, {api.Multi{{points("0 0,1 0,0 0")}}, "MULTIPOLYGON(((0 0,1 0,0 0,0 0)))"}, {api.Multi{{points("0 0,2 2,2 0,0 2")}}, "MULTIPOLYGON(((0 0,2 2,2 0,0 2,0 0)))"}, // rings need not be simple
	} {
		if got, e := wkt.Multi(c.m); got != c.want || e != api.OK {
			t.Error(c.want, got, e)
		}
	}
}

// No bound of corners, or of bytes, holds for multipolygons.
func TestMultiOfMuch(t *testing.T) {
	ring := slices.Repeat(points("79228162514264337593543950335/18446744073709551557 -79228162514264337593543950335/18446744073709551557"), 20000)
	corner := "79228162514264337593543950335/18446744073709551557 -79228162514264337593543950335/18446744073709551557"
	wanted := "MULTIPOLYGON(((" + strings.Repeat(corner+",", 20000) + corner + ")))"
	if got, e := wkt.Multi(api.Multi{{ring}}); got != wanted || e != api.OK || len(got) <= api.MaxText {
		t.Error(len(got), len(wanted), e)
	}
	three := points("0 0,4 0,0 4")
	wanted = "MULTIPOLYGON(" + strings.Repeat("((0 0,4 0,0 4,0 0)),", 999) + "((0 0,4 0,0 4,0 0)))"
	if got, e := wkt.Multi(slices.Repeat(api.Multi{{three}}, 1000)); got != wanted || e != api.OK {
		t.Error(len(got), len(wanted), e)
	}
}

func TestMultiRefuses(t *testing.T) {
	three := points("0 0,4 0,0 4")
	refused := func(m api.Multi) {
		if got, e := wkt.Multi(m); got != "" || e != api.ErrArg {
			t.Error(m, got, e)
		}
	}
	for _, none := range [][][]api.Point{nil, {}} {
		refused(api.Multi{none})
		refused(api.Multi{{three}, none})
		refused(api.Multi{none, {three}})
	}
	for _, few := range [][]api.Point{nil, {}, three[:1], three[:2]} {
		refused(api.Multi{{few}})
		refused(api.Multi{{three, few}})
		refused(api.Multi{{few, three}})
		refused(api.Multi{{three}, {few}})
	}
	for _, p := range badPoints() {
		for at := range 3 {
			ring := slices.Clone(three)
			ring[at] = p
			refused(api.Multi{{ring}})
			refused(api.Multi{{three, ring}})
			refused(api.Multi{{three}, {ring, three}})
		}
		refused(api.Multi{{{p, p}}})
	}
}

// edges are the segments of a shape that may be.
func edges(s api.Shape) []api.Seg {
	if s.IsSeg {
		return []api.Seg{s.Seg}
	}
	var all []api.Seg
	for _, l := range s.Rings {
		for i, n := range l {
			all = append(all, api.Seg{A: n, B: l[(i+1)%len(l)]})
		}
	}
	return all
}

func TestSegs(t *testing.T) {
	for _, s := range good() {
		if got := slices.Collect(wkt.Segs(s)); !slices.Equal(got, edges(s)) {
			t.Error(s, got)
		}
	}
	for _, s := range slices.Concat(wrong(), long()) {
		for got := range wkt.Segs(s) {
			t.Error(len(s.Rings), got)
		}
	}
	wanted := []api.Seg{line(0, 0, 2, 0).Seg, line(2, 0, 0, 2).Seg, line(0, 2, 0, 0).Seg, line(5, 5, 5, 5).Seg, line(5, 5, 6, 5).Seg, line(6, 5, 5, 5).Seg}
	if got := slices.Collect(wkt.Segs(area(nodes(0, 0, 2, 0, 0, 2), nodes(5, 5, 5, 5, 6, 5)))); !slices.Equal(got, wanted) {
		t.Error(got)
	}
}

// some are what is gone over, left after so many, but for 0.
func some(all iter.Seq[api.Seg], many int) []api.Seg {
	var l []api.Seg
	for s := range all {
		if l = append(l, s); len(l) == many {
			break
		}
	}
	return l
}

func TestSegsAreLeftAndGoneOverAgain(t *testing.T) {
	for _, s := range []api.Shape{line(3, 1, 2, 0), area(nodes(0, 0, 4, 0, 4, 4, 0, 4)), area(nodes(0, 0, 4, 0, 4, 4), nodes(1, 1, 3, 3, 3, 1, 2, 0), nodes(7, 7, 8, 8, 9, 7))} {
		wanted := edges(s)
		all := wkt.Segs(s)
		for _, l := range s.Rings { // what was handed in is not kept
			clear(l)
		}
		clear(s.Rings)
		for many := range wanted {
			if got := some(all, many+1); !slices.Equal(got, wanted[:many+1]) {
				t.Error(many, got)
			}
			if got := some(all, 0); !slices.Equal(got, wanted) {
				t.Error("again", many, got)
			}
		}
		for range all { // one within the other
			if got := some(all, 0); !slices.Equal(got, wanted) {
				t.Error(got)
			}
		}
	}
}

func TestSame(t *testing.T) {
	all := good()
	for i, a := range all {
		if !wkt.Same(a, a) || !wkt.Same(a, copied(a)) {
			t.Error(a, "is not the same")
		}
		for j, b := range all {
			if i != j && wkt.Same(a, b) {
				t.Error(a, b)
			}
		}
	}
	for _, s := range slices.Concat(wrong(), long()) {
		if wkt.Same(s, s) || wkt.Same(s, all[0]) || wkt.Same(all[6], s) || wkt.Same(s, api.Shape{}) {
			t.Error(len(s.Rings), "is the same as something")
		}
	}
	segment := line(0, 0, 1, 2)
	segment.Rings = [][]api.Node{}
	if !wkt.Same(segment, line(0, 0, 1, 2)) {
		t.Error("no rings are not nothing")
	}
}

// What is handed in is neither kept nor changed, nor is the spare room behind it.
func TestNothingIsChanged(t *testing.T) {
	room := nodes(0, 2, 2, 0, 0, 0, 5, 5, 9, 9, 7, 8, 7, 7)
	rings := [][]api.Node{room[:3], room[4:7:7], room[3:]}
	s := area(rings[:2]...)
	kept, keptRings := slices.Clone(room), copied(area(rings...))
	wkt.Check(s)
	wkt.Text(s)
	wkt.Same(s, s)
	for range wkt.Segs(s) {
	}
	if !slices.Equal(room, kept) || !alike(area(rings...), keptRings) {
		t.Error("what was handed in is changed", room, rings)
	}
	corners := points("0 0,4 0,0 4,7 7,8 8")
	parts := api.Multi{{corners[:3], corners[1:4], corners}, {corners}}
	told := slices.Clone(corners)
	wkt.Multi(api.Multi{parts[0][:2]})
	wkt.Multi(parts[:1])
	if !slices.Equal(corners, told) || len(parts[0][2]) != 5 || len(parts[1]) != 1 {
		t.Error("what was handed in is changed", parts)
	}
}

// An answer is new memory, and so is each ring of it.
func TestAnswersAreApart(t *testing.T) {
	const text = "POLYGON((0 0,4 0,4 4,0 4,0 0),(1 1,1 3,3 3,1 1),(2 2,9 2,2 9,2 2))"
	wanted := area(nodes(0, 0, 4, 0, 4, 4, 0, 4), nodes(1, 1, 1, 3, 3, 3), nodes(2, 2, 9, 2, 2, 9))
	one, _ := wkt.Parse(text)
	other, _ := wkt.Parse(text)
	for i := range one.Rings {
		for range 9 {
			one.Rings[i] = append(one.Rings[i], api.Node{X: -1, Y: -1})
		}
		clear(one.Rings[i])
		for j := i + 1; j < len(one.Rings); j++ {
			if !slices.Equal(one.Rings[j], wanted.Rings[j]) {
				t.Error(i, j, one)
			}
		}
	}
	if !alike(other, wanted) {
		t.Error(other)
	}
}
