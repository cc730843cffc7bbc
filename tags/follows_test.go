package tags_test

import (
	"slices"
	"testing"

	"merestone/api"
	"merestone/tags"
)

func TestMoreAndLessLeaveWhatWasThere(t *testing.T) {
	lists(func(l []int64) {
		all := of(t, l...)
		for _, n := range around(counted(l...).different()) {
			if more, e := all.More(n); e == api.OK {
				if got, e := more.Less(n); !tags.Same(got, all) || e != api.OK {
					t.Fatal(l, n, got, e)
				}
			}
			if less, e := all.Less(n); e == api.OK {
				if got, e := less.More(n); !tags.Same(got, all) || e != api.OK {
					t.Fatal(l, n, got, e)
				}
			}
		}
	})
}

func TestWithDoesNotHangOnTheOrder(t *testing.T) {
	var others, third []int64
	lists(func(l []int64) {
		a, b, c := of(t, l...), of(t, others...), of(t, third...)
		one, e := a.With(b)
		other, wrong := b.With(a)
		if e != wrong || !tags.Same(one, other) {
			t.Fatal(l, others, e, wrong)
		}
		if e == api.OK {
			behind, e := one.With(c)
			if ahead, wrong := b.With(c); wrong == api.OK {
				got, wrong := a.With(ahead)
				if e != wrong || !tags.Same(got, behind) {
					t.Fatal(l, others, third, e, wrong)
				}
			}
		}
		others, third = l, others
	})
}

func TestNewDoesNotHangOnTheOrder(t *testing.T) {
	draw := drawn()
	lists(func(l []int64) {
		all := of(t, l...)
		for i := range l {
			j := draw(i + 1)
			l[i], l[j] = l[j], l[i]
		}
		if !tags.Same(all, of(t, l...)) {
			t.Fatal(l, all.Text())
		}
	})
}

func TestOddOfWithIsWhatIsInJustOne(t *testing.T) {
	told := 0
	var others []int64
	lists(func(l []int64) {
		a, b := of(t, l...), of(t, others...)
		if together, e := a.With(b); e == api.OK {
			told++
			var wanted []int64
			for _, n := range append(a.Odd(), b.Odd()...) {
				if slices.Contains(a.Odd(), n) != slices.Contains(b.Odd(), n) {
					wanted = append(wanted, n)
				}
			}
			slices.Sort(wanted)
			if got := together.Odd(); !slices.Equal(got, wanted) {
				t.Fatal(l, others, got, wanted)
			}
		}
		others = l
	})
	if told < 100 {
		t.Error("too few are there", told)
	}
}

func TestParseOfTextIsTheTags(t *testing.T) {
	hold := func(all tags.Tags) {
		if got, e := tags.Parse(all.Text()); !tags.Same(got, all) || e != api.OK {
			t.Fatal(all.Text(), got, e)
		}
	}
	lists(func(l []int64) { hold(of(t, l...)) })
	most, _ := full(t)
	hold(most)
	hold(tags.Tags{})
}

func TestTheZeroTagsAreNone(t *testing.T) {
	var none tags.Tags
	is(t, none, counts{})
	if got, e := none.More(7); e != api.OK || !tags.Same(got, of(t, 7)) {
		t.Error(got, e)
	}
	got, e := none.Less(7)
	refused(t, got, e, api.ErrNone)
	got, e = none.Less(0)
	refused(t, got, e, api.ErrArg)
	if got, e := none.With(none); e != api.OK || !tags.Same(got, none) {
		t.Error(got, e)
	}
	if got, e := none.With(of(t, 3, 3)); e != api.OK || got.Text() != "3 3" {
		t.Error(got, e)
	}
	if got, e := of(t, 3, 3).With(none); e != api.OK || got.Text() != "3 3" {
		t.Error(got, e)
	}
	if got, e := tags.Parse(""); e != api.OK || !tags.Same(got, none) {
		t.Error(got, e)
	}
}
