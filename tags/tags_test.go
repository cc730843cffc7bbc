package tags_test

import (
	"fmt"
	"maps"
	"slices"
	"strings"
	"testing"

	"merestone/api"
	"merestone/tags"
)

func TestNew(t *testing.T) {
	lists(func(l []int64) {
		handed := slices.Clone(l)
		got, e := tags.New(l...)
		if e != api.OK {
			t.Fatal(l, e)
		}
		if !slices.Equal(l, handed) {
			t.Fatal("what was handed in is changed", handed, l)
		}
		clear(l)
		is(t, got, counted(handed...))
	})
}

func TestNewOfNone(t *testing.T) {
	for _, l := range [][]int64{nil, {}} {
		is(t, of(t, l...), counts{})
	}
}

func TestNewOfWrongOnes(t *testing.T) {
	for _, n := range bad() {
		for _, l := range [][]int64{{n}, {n, 1}, {1, n}, {7, 3, n, 3}, append(from(1, 64), n), append(times(9, 255), n)} {
			got, e := tags.New(l...)
			refused(t, got, e, api.ErrArg)
		}
	}
}

func TestNewAtItsBounds(t *testing.T) {
	last := from(greatest-63, 64)
	for _, l := range [][]int64{
		{1}, {greatest}, {greatest, 1}, times(1, 255), times(greatest, 255), from(1, 64), last, slices.Concat(last, last), slices.Repeat(from(1, 64), 255), slices.Concat(times(2, 255), times(1, 255)),
	} {
		is(t, of(t, l...), counted(l...))
	}
	for _, l := range [][]int64{
		times(1, 256), times(greatest, 256), times(1, 100000), from(1, 65), append(last, 1), from(1, 100000), slices.Concat(times(2, 255), times(1, 256)), append(slices.Repeat(from(1, 64), 255), 1), append(slices.Repeat(from(1, 64), 255), 65),
	} {
		got, e := tags.New(l...)
		refused(t, got, e, api.ErrLong)
	}
}

// TestNewTellsWhatMayNotBeFirst puts one number that may not be among too many, at every kind of place.
func TestNewTellsWhatMayNotBeFirst(t *testing.T) {
	for _, l := range [][]int64{
		times(1, 256), times(greatest, 256), from(1, 65), from(greatest-64, 65), slices.Repeat(from(1, 65), 256), slices.Concat(times(7, 256), from(1, 65)), times(3, 100000),
	} {
		got, e := tags.New(l...)
		refused(t, got, e, api.ErrLong)
		for _, n := range bad() {
			for _, at := range []int{0, 1, 63, 64, 65, len(l) / 2, len(l) - 1, len(l)} {
				mixed := slices.Insert(slices.Clone(l), at, n)
				got, e := tags.New(mixed...)
				refused(t, got, e, api.ErrArg)
				if _, wanted := added(mixed...); wanted != api.ErrArg {
					t.Error(n, at, wanted)
				}
			}
		}
	}
}

// TestNewOfMixedNumbers draws lists in which numbers may not be, or are too many, or both.
func TestNewOfMixedNumbers(t *testing.T) {
	draw := drawn()
	told := map[api.Errno]int{}
	for range 600 {
		many, different := 1+draw(600), 1+draw(130)
		var l []int64
		for range many {
			l = append(l, int64(1+draw(different)))
		}
		for range max(0, draw(4)-1) {
			l = slices.Insert(l, draw(len(l)+1), bad()[draw(len(bad()))])
		}
		got, e := tags.New(l...)
		wanted, wrong := added(l...)
		told[wrong]++
		if wrong != api.OK {
			refused(t, got, e, wrong)
			continue
		}
		if e != api.OK {
			t.Fatal(l, e)
		}
		is(t, got, wanted)
	}
	if told[api.OK] < 50 || told[api.ErrArg] < 50 || told[api.ErrLong] < 50 {
		t.Error("too few are there", told)
	}
}

func TestMore(t *testing.T) {
	lists(func(l []int64) {
		all := of(t, l...)
		for _, n := range around(counted(l...).different()) {
			got, e := all.More(n)
			wanted, wrong := added(append(slices.Clone(l), n)...)
			if wrong != api.OK {
				refused(t, got, e, wrong)
				continue
			}
			if e != api.OK {
				t.Fatal(l, n, e)
			}
			is(t, got, wanted)
		}
		is(t, all, counted(l...))
	})
}

func TestMoreAtItsBounds(t *testing.T) {
	for _, c := range []struct {
		l    []int64
		n    int64
		want api.Errno
	}{
		{times(3, 254), 3, api.OK}, {times(3, 255), 3, api.ErrLong}, {times(3, 255), 2, api.OK}, {times(3, 255), 4, api.OK},
		{from(3, 63), 2, api.OK}, {from(3, 63), 66, api.OK}, {from(3, 64), 2, api.ErrLong}, {from(3, 64), 67, api.ErrLong}, {from(3, 64), 3, api.OK}, {from(3, 64), 66, api.OK},
		{nil, 1, api.OK}, {nil, greatest, api.OK}, {nil, 0, api.ErrArg}, {nil, greatest + 1, api.ErrArg}, {times(3, 255), 0, api.ErrArg}, {from(3, 64), -1, api.ErrArg}, {from(greatest-63, 64), greatest + 1, api.ErrArg},
	} {
		got, e := of(t, c.l...).More(c.n)
		if c.want != api.OK {
			refused(t, got, e, c.want)
			continue
		}
		if e != api.OK {
			t.Fatal(c, e)
		}
		is(t, got, counted(append(c.l, c.n)...))
	}
}

func TestLess(t *testing.T) {
	lists(func(l []int64) {
		all := of(t, l...)
		for _, n := range around(counted(l...).different()) {
			got, e := all.Less(n)
			at := slices.Index(l, n)
			switch {
			case n < 1 || n > greatest:
				refused(t, got, e, api.ErrArg)
			case at < 0:
				refused(t, got, e, api.ErrNone)
			case e != api.OK:
				t.Fatal(l, n, e)
			default:
				is(t, got, counted(slices.Delete(slices.Clone(l), at, at+1)...))
			}
		}
		is(t, all, counted(l...))
	})
}

func TestLessTillNoneIsLeft(t *testing.T) {
	draw := drawn()
	all, left := full(t)
	for many := 64; many > 0; {
		l := left.different()
		n := l[draw(len(l))]
		for range 1 + draw(255) {
			if left[n] == 0 {
				break
			}
			var e api.Errno
			if all, e = all.Less(n); e != api.OK {
				t.Fatal(n, e)
			}
			left[n]--
		}
		many = len(left.different())
		is(t, all, left)
	}
	got, e := all.Less(5)
	refused(t, got, e, api.ErrNone)
}

func TestLessMakesRoom(t *testing.T) {
	all := of(t, from(3, 64)...)
	less, _ := all.Less(40)
	got, e := less.More(2)
	if e != api.OK {
		t.Fatal(e)
	}
	wanted := counted(append(from(3, 64), 2)...)
	wanted[40] = 0
	is(t, got, wanted)
	most := of(t, times(3, 255)...)
	less, _ = most.Less(3)
	if got, e = less.More(3); e != api.OK || got.Many(3) != 255 {
		t.Fatal(got, e)
	}
}

func TestWith(t *testing.T) {
	told := map[api.Errno]int{}
	var others []int64
	lists(func(l []int64) {
		a, b := of(t, l...), of(t, others...)
		got, e := a.With(b)
		wanted := both(counted(l...), counted(others...))
		told[e]++
		if wrong := wanted.told(); wrong != api.OK {
			refused(t, got, e, wrong)
		} else if e != api.OK {
			t.Fatal(l, others, e)
		} else {
			is(t, got, wanted)
		}
		is(t, a, counted(l...))
		is(t, b, counted(others...))
		others = l
	})
	if len(told) != 2 {
		t.Error("not all are there", told)
	}
}

func TestWithAtItsBounds(t *testing.T) {
	for _, c := range []struct {
		a, b []int64
		want api.Errno
	}{
		{nil, nil, api.OK}, {nil, []int64{7}, api.OK}, {[]int64{7}, nil, api.OK}, {[]int64{7}, []int64{7}, api.OK},
		{times(3, 128), times(3, 127), api.OK}, {times(3, 128), times(3, 128), api.ErrLong}, {times(3, 255), []int64{3}, api.ErrLong}, {[]int64{3}, times(3, 255), api.ErrLong}, {times(3, 255), times(3, 255), api.ErrLong}, {times(3, 255), times(4, 255), api.OK},
		{from(1, 32), from(33, 32), api.OK}, {from(1, 32), from(33, 33), api.ErrLong}, {from(1, 33), from(33, 32), api.OK}, {from(1, 64), []int64{65}, api.ErrLong}, {[]int64{greatest}, from(1, 64), api.ErrLong}, {from(2, 64), []int64{1}, api.ErrLong}, {from(1, 64), from(1, 64), api.OK}, {from(1, 64), from(101, 64), api.ErrLong},
		{slices.Repeat(from(1, 64), 254), from(1, 64), api.OK}, {slices.Repeat(from(1, 64), 254), append(from(1, 64), 64), api.ErrLong}, {slices.Repeat(from(1, 64), 255), nil, api.OK}, {slices.Repeat(from(1, 64), 255), []int64{30}, api.ErrLong},
	} {
		got, e := of(t, c.a...).With(of(t, c.b...))
		if c.want != api.OK {
			refused(t, got, e, c.want)
			continue
		}
		if e != api.OK {
			t.Fatal(c, e)
		}
		is(t, got, counted(slices.Concat(c.a, c.b)...))
	}
}

func TestRows(t *testing.T) {
	for _, c := range []struct {
		l, odd []int64
		text   string
	}{
		{nil, nil, ""}, {[]int64{1}, []int64{1}, "1"}, {[]int64{3, 1, 3}, []int64{1}, "1 3 3"}, {[]int64{3, 3, 3}, []int64{3}, "3 3 3"}, {[]int64{10, 9}, []int64{9, 10}, "9 10"},
		{[]int64{greatest, 1, 2, 2}, []int64{1, greatest}, "1 2 2 2147483647"}, {[]int64{5, 5}, nil, "5 5"}, {[]int64{100, 20, 3}, []int64{3, 20, 100}, "3 20 100"},
	} {
		got := of(t, c.l...)
		if text := got.Text(); text != c.text {
			t.Error(c, text)
		}
		if odd := got.Odd(); !slices.Equal(odd, c.odd) {
			t.Error(c, odd)
		}
		is(t, got, counted(c.l...))
	}
	for _, many := range []int{254, 255} {
		if odd := of(t, times(9, many)...).Odd(); len(odd) != many%2 {
			t.Error(many, odd)
		}
	}
}

func TestAllIsLeftAndGoneOverAgain(t *testing.T) {
	got := of(t, 4, 2, 4, 9, 2, 4)
	all := got.All()
	for many := range 4 {
		var seen []string
		for n, times := range all {
			if len(seen) == many {
				break
			}
			seen = append(seen, fmt.Sprint(n, "x", times))
		}
		if wanted := []string{"2x2", "4x3", "9x1"}[:many]; !slices.Equal(seen, wanted) {
			t.Error(seen, wanted)
		}
	}
	pairs := 0
	for n := range all {
		for m := range all {
			if n == m {
				pairs++
			}
		}
	}
	if pairs != 3 {
		t.Error(pairs, "pairs")
	}
}

func TestAllOfOneStaysAsItIs(t *testing.T) {
	before := of(t, 2, 4)
	all := before.All()
	if _, e := before.More(3); e != api.OK {
		t.Fatal(e)
	}
	if _, e := before.Less(2); e != api.OK {
		t.Fatal(e)
	}
	for n := range all {
		more, _ := before.More(n)
		if more.Many(n) != 2 || before.Many(n) != 1 {
			t.Error(n, more.Text(), before.Text())
		}
	}
	if c := maps.Collect(all); len(c) != 2 || c[2] != 1 || c[4] != 1 {
		t.Error(c)
	}
}

func TestTagsAreNeverChanged(t *testing.T) {
	draw := drawn()
	var made []tags.Tags
	var facts []counts
	keep := func(x tags.Tags, c counts) {
		made, facts = append(made, x), append(facts, c)
	}
	keep(tags.Tags{}, counts{})
	for range 400 { // each made of any that were made ahead of it
		at := draw(len(made))
		n := int64(1 + draw(70))
		c := maps.Clone(facts[at])
		var x tags.Tags
		var e api.Errno
		switch draw(3) {
		case 0:
			x, e = made[at].More(n)
			c[n]++
		case 1:
			x, e = made[at].Less(n)
			c[n]--
		default:
			other := draw(len(made))
			x, e = made[at].With(made[other])
			c = both(c, facts[other])
		}
		if e == api.OK {
			keep(x, c)
		}
	}
	for i, x := range made {
		clear(x.Odd())
		is(t, x, facts[i])
	}
	if len(made) < 200 {
		t.Error("too few were made", len(made))
	}
}

func TestSpareRoomIsLeft(t *testing.T) {
	room := []int64{9, 3, 7, 1}
	got := of(t, room[:2]...)
	is(t, got, counted(9, 3))
	if !slices.Equal(room, []int64{9, 3, 7, 1}) {
		t.Error("what was handed in is changed", room)
	}
}

func TestParse(t *testing.T) {
	lists(func(l []int64) {
		wanted := counted(l...)
		got, e := tags.Parse(wanted.text())
		if e != api.OK {
			t.Fatal(wanted.text(), e)
		}
		is(t, got, wanted)
	})
}

func TestParseOfWhatIsNoText(t *testing.T) {
	for _, text := range []string{
		" ", "  ", " 1", "1 ", "1  2", "1 2 ", "0", "-0", "-1", "+1", "01", "00", "1 02", "2 1", "1 2 1", "2 2 1", "10 9", "2147483648", "1 2147483648", "4294967297", "9223372036854775807", "9223372036854775808", "18446744073709551617", "-9223372036854775808",
		"x", "1x", "x1", "1 x", "1,2", "1\t2", "1\n2", "1\n", "\n", "\t", "1\v2", "1\r", "1.0", "1e3", "0x1", "1_0", "0b1", "1;2", "none", "\x00", "1\x00", "1 \x00", "\xff", "1 \xff2", "\u0661", "\uff11", "1\u00a02", "1\u20032", "\ufeff1", "[1 2]", "1 -2",
		strings.Repeat("1", 1<<16), strings.Repeat(" ", 1<<16), strings.Repeat("1 ", 1<<16), strings.Repeat("0", 1<<16) + "1", strings.Repeat("x", 1<<21),
	} {
		got, e := tags.Parse(text)
		refused(t, got, e, api.ErrTags)
		if _, wanted := parsed(text); wanted != api.ErrTags {
			t.Errorf("%.40q is a text", text)
		}
	}
}

func TestParseAtItsBounds(t *testing.T) {
	ones := func(many int) string { return counted(times(1, many)...).text() }
	for _, c := range []struct {
		text string
		want api.Errno
	}{
		{"", api.OK}, {"1", api.OK}, {"2147483647", api.OK}, {ones(255), api.OK}, {ones(256), api.ErrLong}, {ones(1 << 16), api.ErrLong}, {ones(255) + " 2", api.OK}, {ones(256) + " 2", api.ErrLong},
		{counted(from(1, 64)...).text(), api.OK}, {counted(from(1, 65)...).text(), api.ErrLong}, {counted(from(1, 1<<16)...).text(), api.ErrLong}, {counted(from(greatest-63, 64)...).text(), api.OK}, {"1 " + counted(from(greatest-63, 64)...).text(), api.ErrLong},
		{ones(256) + " 0", api.ErrTags}, {ones(256) + " ", api.ErrTags}, {ones(256) + " 2 1", api.ErrTags}, {ones(256) + " 2147483648", api.ErrTags}, {counted(from(2, 65)...).text() + " 1", api.ErrTags}, {counted(from(2, 65)...).text() + "x", api.ErrTags}, {"0 " + ones(256), api.ErrTags},
		{counted(slices.Repeat(from(greatest-63, 64), 255)...).text(), api.OK}, {counted(slices.Repeat(from(greatest-63, 64), 256)...).text(), api.ErrLong},
	} {
		got, e := tags.Parse(c.text)
		wanted, wrong := parsed(c.text)
		if wrong != c.want {
			t.Fatalf("%.40q %v", c.text, wrong)
		}
		if wrong != api.OK {
			refused(t, got, e, wrong)
			continue
		}
		if e != api.OK {
			t.Fatalf("%.40q %v", c.text, e)
		}
		is(t, got, wanted)
	}
}

// TestParseOfChangedTexts changes texts that are right byte by byte, and puts others together of words.
func TestParseOfChangedTexts(t *testing.T) {
	draw := drawn()
	told := map[api.Errno]int{}
	hold := func(text string) {
		got, e := tags.Parse(text)
		wanted, wrong := parsed(text)
		told[wrong]++
		if wrong != api.OK {
			refused(t, got, e, wrong)
			return
		}
		if e != api.OK {
			t.Fatal(text, e)
		}
		is(t, got, wanted)
	}
	lists(func(l []int64) {
		whole := counted(l...).text()
		for range 20 {
			at := draw(len(whole) + 1)
			byBytes := "0123456789 -+x,"[draw(15):][:1]
			hold(whole[:at] + byBytes + whole[at:])
			hold(whole[:at] + whole[min(at+1, len(whole)):])
			hold(whole[:at] + byBytes + whole[min(at+1, len(whole)):])
		}
	})
	words := []string{"1", "2", "2", "3", "10", "11", "0", "01", "2147483647", "2147483648", " ", " ", " ", " ", "-", ""}
	for range 4000 {
		var text strings.Builder
		for range draw(7) {
			text.WriteString(words[draw(len(words))])
		}
		hold(text.String())
	}
	if told[api.OK] < 1000 || told[api.ErrTags] < 1000 {
		t.Error("too few are there", told)
	}
}

func TestSame(t *testing.T) {
	draw := drawn()
	told := map[bool]int{}
	some := func() []int64 {
		var l []int64
		for range draw(5) {
			l = append(l, int64(1+draw(3)))
		}
		return l
	}
	for range 4000 {
		a, b := some(), some()
		wanted := maps.Equal(counted(a...), counted(b...))
		told[wanted]++
		if same := tags.Same(of(t, a...), of(t, b...)); same != wanted {
			t.Fatal(a, b, same)
		}
	}
	if len(told) != 2 {
		t.Error("not all are there", told)
	}
}

func TestSameOfThoseMadeInOtherWays(t *testing.T) {
	emptied, e := of(t, 7).Less(7)
	if e != api.OK || !tags.Same(emptied, tags.Tags{}) || !tags.Same(tags.Tags{}, emptied) || !tags.Same(of(t), emptied) {
		t.Error("none is not the same as none", e)
	}
	whole, _ := full(t)
	other, _ := full(t)
	less, _ := other.Less(68)
	if !tags.Same(whole, other) || tags.Same(whole, less) || tags.Same(less, whole) || tags.Same(whole, tags.Tags{}) {
		t.Error("of many")
	}
	if tags.Same(of(t, 1, 2), of(t, 1)) || tags.Same(of(t, 1), of(t, 1, 2)) || tags.Same(of(t, 1), of(t, 2)) || tags.Same(of(t, 1, 1, 2), of(t, 1, 2, 2)) {
		t.Error("others are the same")
	}
}
