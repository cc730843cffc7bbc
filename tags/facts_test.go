package tags_test

import (
	"fmt"
	"maps"
	"math"
	"math/big"
	"reflect"
	"regexp"
	"slices"
	"strings"
	"testing"

	"merestone/api"
	"merestone/tags"
)

// greatest is the greatest number that may be.
const greatest = 1<<31 - 1

// counts tell by plain facts how often each number is there.
type counts map[int64]int

// counted are the numbers of a list.
func counted(l ...int64) counts {
	c := counts{}
	for _, n := range l {
		c[n]++
	}
	return c
}

// both are those of two together.
func both(a, b counts) counts {
	c := maps.Clone(a)
	for n, times := range b {
		c[n] += times
	}
	return c
}

// list is all numbers, rising, each as often as it is there.
func (c counts) list() []int64 {
	var l []int64
	for n, times := range c {
		for range times {
			l = append(l, n)
		}
	}
	slices.Sort(l)
	return l
}

// different is the numbers, rising, each once.
func (c counts) different() []int64 {
	return slices.Compact(c.list())
}

// odd is the numbers that are there an odd number of times, rising.
func (c counts) odd() []int64 {
	return slices.DeleteFunc(c.different(), func(n int64) bool { return c[n]%2 == 0 })
}

// text is that of the numbers.
func (c counts) text() string {
	return strings.Trim(fmt.Sprint(c.list()), "[]")
}

// told is what is wrong with the counts: too many of one, or too many different ones.
func (c counts) told() api.Errno {
	different := 0
	for _, times := range c {
		if times > 255 {
			return api.ErrLong
		}
		if times > 0 {
			different++
		}
	}
	if different > 64 {
		return api.ErrLong
	}
	return api.OK
}

// added is what New tells of these: of one that may not be ahead of too many.
func added(l ...int64) (counts, api.Errno) {
	for _, n := range l {
		if n < 1 || n > greatest {
			return nil, api.ErrArg
		}
	}
	c := counted(l...)
	if e := c.told(); e != api.OK {
		return nil, e
	}
	return c, api.OK
}

// form is that of the texts, but for how great the numbers are, and in which order.
var form = regexp.MustCompile(`\A(?:[1-9][0-9]*(?: [1-9][0-9]*)*)?\z`)

// parsed is what is told of a text.
func parsed(text string) (counts, api.Errno) {
	if !form.MatchString(text) {
		return nil, api.ErrTags
	}
	c := counts{}
	last := int64(1)
	for _, word := range strings.Fields(text) {
		n, _ := new(big.Int).SetString(word, 10)
		if n.Cmp(big.NewInt(greatest)) > 0 || n.Int64() < last {
			return nil, api.ErrTags
		}
		last = n.Int64()
		c[last]++
	}
	if e := c.told(); e != api.OK {
		return nil, e
	}
	return c, api.OK
}

// is holds against each other all that Tags tell and what they should.
func is(t *testing.T, got tags.Tags, wanted counts) {
	t.Helper()
	many := counts{}
	var order []int64
	for n, times := range got.All() {
		many[n] = times
		order = append(order, n)
	}
	if different := wanted.different(); !slices.Equal(order, different) || got.Len() != len(different) {
		t.Fatal("others are there", order, got.Len(), different)
	}
	for _, n := range order {
		if many[n] != wanted[n] {
			t.Fatal(n, "is there", many[n], "times, not", wanted[n])
		}
	}
	for _, n := range around(order) {
		if got.Many(n) != wanted[n] {
			t.Fatal(n, "is there", got.Many(n), "times, not", wanted[n])
		}
	}
	if odd := got.Odd(); !slices.Equal(odd, wanted.odd()) {
		t.Fatal(odd, "are odd, not", wanted.odd())
	}
	if text := got.Text(); text != wanted.text() {
		t.Fatal(text, "is the text, not", wanted.text())
	}
}

// around are the numbers, those beside them, and such as may not be.
func around(l []int64) []int64 {
	all := bad()
	for _, n := range l {
		all = append(all, n-1, n, n+1)
	}
	return append(all, 1, greatest)
}

// refused tells that nothing but what is wrong is answered.
func refused(t *testing.T, got tags.Tags, e, wanted api.Errno) {
	t.Helper()
	if e != wanted || !reflect.DeepEqual(got, tags.Tags{}) {
		t.Fatal(got, e, "not", wanted)
	}
}

// of are the Tags of these numbers, which may be.
func of(t *testing.T, l ...int64) tags.Tags {
	t.Helper()
	got, e := tags.New(l...)
	if e != api.OK {
		t.Fatal(l, e)
	}
	return got
}

// bad are numbers that may not be.
func bad() []int64 {
	return []int64{0, -1, -2, greatest + 1, greatest + 2, -greatest, 1 << 32, 1<<32 + 1, 1 - 1<<32, math.MaxInt64, math.MinInt64, math.MinInt64 + 1}
}

// times is a number so often.
func times(n int64, many int) []int64 {
	return slices.Repeat([]int64{n}, many)
}

// from are so many different numbers, rising from one on.
func from(n int64, many int) []int64 {
	var l []int64
	for i := range int64(many) {
		l = append(l, n+i)
	}
	return l
}

// drawn draws numbers below a bound, always the same ones.
func drawn() func(below int) int {
	state := uint64(88172645463325252)
	return func(below int) int {
		state ^= state << 13
		state ^= state >> 7
		state ^= state << 17
		return int(state % uint64(below))
	}
}

// lists draws lists of numbers: few and many different ones, near one another and at both bounds.
func lists(do func(l []int64)) {
	draw := drawn()
	for _, different := range []int{1, 2, 3, 7, 64} {
		for _, first := range []int64{1, 1000, greatest - 63} {
			for range 12 {
				var l []int64
				for range draw(3 * different) {
					l = append(l, first+int64(draw(different)))
				}
				do(l)
			}
		}
	}
}

// full are Tags with nothing left to add but what is refused, and what they are.
func full(t *testing.T) (tags.Tags, counts) {
	t.Helper()
	l := slices.Repeat(from(5, 64), 255)
	return of(t, l...), counted(l...)
}
