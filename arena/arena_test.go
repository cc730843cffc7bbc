package arena_test

import (
	"math"
	"slices"
	"testing"

	"merestone/api"
	"merestone/arena"
)

func TestExamples(t *testing.T) {
	a := of(t, 3)
	for wanted := range 2 {
		if at, e := a.Take(); at != wanted || e != api.OK {
			t.Error(at, e)
		}
	}
	if e := a.Give(0); e != api.OK {
		t.Error(e)
	}
	if at, e := a.Take(); at != 0 || e != api.OK {
		t.Error(at, e)
	}
	if a.Top() != 2 {
		t.Error(a.Top())
	}
	if e := a.Give(2); e != api.ErrNone {
		t.Error(e)
	}
	if e := a.Claim(1); e != api.ErrSpent {
		t.Error(e)
	}
	if got, e := arena.New(-1); got != nil || e != api.ErrArg {
		t.Error(got, e)
	}
	if e := a.Give(3); e != api.ErrRange {
		t.Error(e)
	}
}

func TestNew(t *testing.T) {
	for _, many := range []int{0, 1, 2, 3, 255, 256, 65535, most} {
		is(t, of(t, many), make(plain, many))
	}
}

func TestNewOfWrongNumbers(t *testing.T) {
	for _, many := range []int{-1, -2, -most, math.MinInt, math.MinInt32, most + 1, most + 2, 2 * most, 1 << 32, 1<<32 + 7, math.MaxInt32, math.MaxInt} {
		if a, e := arena.New(many); a != nil || e != api.ErrArg {
			t.Error(many, a, e)
		}
	}
}

func TestNoPlaces(t *testing.T) {
	a := of(t, 0)
	if at, e := a.Take(); at != 0 || e != api.ErrSpent {
		t.Error(at, e)
	}
	for _, at := range append(beyond(0), 0) {
		if e := a.Claim(at); e != api.ErrRange {
			t.Error(at, e)
		}
		if e := a.Give(at); e != api.ErrRange {
			t.Error(at, e)
		}
	}
	is(t, a, plain{})
}

func TestTakeTillNoneIsFree(t *testing.T) {
	for _, many := range []int{1, 2, 3, 100, most} {
		a := full(t, many)
		for range 3 {
			if at, e := a.Take(); at != 0 || e != api.ErrSpent {
				t.Fatal(many, at, e)
			}
		}
		wanted := make(plain, many)
		for at := range wanted {
			wanted[at] = true
		}
		is(t, a, wanted)
	}
}

func TestTakeIsTheLeastFreePlace(t *testing.T) {
	for _, given := range [][]int{{0}, {9}, {4}, {7, 2, 5}, {2, 5, 7}, {9, 8, 7, 6, 5, 4, 3, 2, 1, 0}, up(0, 10), {5, 0, 9, 3}} {
		a := full(t, 10)
		for _, at := range given {
			if e := a.Give(at); e != api.OK {
				t.Fatal(given, at, e)
			}
		}
		wanted := slices.Sorted(slices.Values(given))
		if got := spent(t, a); !slices.Equal(got, wanted) {
			t.Error(got, "not", wanted)
		}
	}
}

func TestTakeGoesRoundClaimedPlaces(t *testing.T) {
	for _, l := range [][]int{{0}, {9}, {4}, {0, 1, 2}, {2, 1, 0}, {7, 2, 5}, {9, 0}, {1, 3, 5, 7, 9}, {9, 7, 5, 3, 1}, up(0, 10), up(1, 9)} {
		a := claimed(t, 10, l...)
		wanted := slices.DeleteFunc(up(0, 10), func(at int) bool { return slices.Contains(l, at) })
		if got := spent(t, a); !slices.Equal(got, wanted) {
			t.Error(l, got, "not", wanted)
		}
	}
}

func TestClaimAndGiveOfOneAgainAndAgain(t *testing.T) {
	for _, at := range []int{0, 1, 50, 98, 99} {
		a, wanted := of(t, 100), make(plain, 100)
		for range 20 {
			if e := a.Claim(at); e != api.OK {
				t.Fatal(at, e)
			}
			wanted[at] = true
			is(t, a, wanted)
			if e := a.Claim(at); e != api.ErrSpent {
				t.Fatal(at, e)
			}
			if e := a.Give(at); e != api.OK {
				t.Fatal(at, e)
			}
			wanted[at] = false
			is(t, a, wanted)
			if e := a.Give(at); e != api.ErrNone {
				t.Fatal(at, e)
			}
		}
		if got := spent(t, a); !slices.Equal(got, up(0, 100)) {
			t.Fatal(at, got)
		}
	}
}

func TestPlacesThatThereAreNot(t *testing.T) {
	for _, many := range []int{1, 7, most} {
		for _, a := range []*arena.Arena{of(t, many), full(t, many)} {
			before := a.Copy()
			for _, at := range beyond(many) {
				if e := a.Claim(at); e != api.ErrRange {
					t.Error(many, at, e)
				}
				if e := a.Give(at); e != api.ErrRange {
					t.Error(many, at, e)
				}
				if a.Taken(at) {
					t.Error(many, at)
				}
			}
			if !arena.Same(a, before) {
				t.Error(many, "places: what is refused changed something")
			}
		}
	}
}

func TestBothEndsOfTheGreatest(t *testing.T) {
	a := claimed(t, most, most-1)
	if a.Top() != most || a.Len() != 1 || !a.Taken(most-1) || a.Taken(0) {
		t.Error(a.Top(), a.Len())
	}
	if e := a.Claim(most - 1); e != api.ErrSpent {
		t.Error(e)
	}
	if at, e := a.Take(); at != 0 || e != api.OK {
		t.Error(at, e)
	}
	if e := a.Give(most - 1); e != api.OK || a.Top() != 1 {
		t.Error(e, a.Top())
	}
	if got := spent(t, a); !slices.Equal(got, up(1, most-1)) {
		t.Error(len(got))
	}
}

func TestTop(t *testing.T) {
	a := of(t, 50)
	for _, c := range []struct {
		claim bool
		at    int
		top   int
	}{
		{true, 7, 8}, {true, 3, 8}, {true, 40, 41}, {true, 39, 41}, {true, 49, 50}, {false, 39, 50}, {false, 49, 41},
		{false, 40, 8}, {false, 3, 8}, {true, 0, 8}, {false, 7, 1}, {true, 1, 2}, {false, 0, 2}, {false, 1, 0}, {true, 30, 31}, {false, 30, 0},
	} {
		does := a.Give
		if c.claim {
			does = a.Claim
		}
		if e := does(c.at); e != api.OK || a.Top() != c.top {
			t.Fatal(c, e, a.Top())
		}
	}
}

func TestAllTellsWhatIsTakenWhenItIsCalled(t *testing.T) {
	a := claimed(t, 20, 3, 17, 0, 9)
	before := a.All()
	if e := a.Give(9); e != api.OK {
		t.Fatal(e)
	}
	if e := a.Claim(5); e != api.OK {
		t.Fatal(e)
	}
	now := a.All()
	for range 3 {
		if got := slices.Collect(before); !slices.Equal(got, []int{0, 3, 9, 17}) {
			t.Error(got)
		}
		if got := slices.Collect(now); !slices.Equal(got, []int{0, 3, 5, 17}) {
			t.Error(got)
		}
	}
	spent(t, a)
	if got := slices.Collect(now); !slices.Equal(got, []int{0, 3, 5, 17}) {
		t.Error(got)
	}
}

func TestAllMayBeLeft(t *testing.T) {
	a := claimed(t, 20, 3, 17, 0, 9)
	all := a.All()
	wanted := []int{0, 3, 9, 17}
	for many := 1; many <= len(wanted); many++ {
		var got []int
		for at := range all {
			if got = append(got, at); len(got) == many {
				break
			}
		}
		if !slices.Equal(got, wanted[:many]) {
			t.Error(many, got)
		}
	}
	for at := range all {
		if got := slices.Collect(all); !slices.Equal(got, wanted) {
			t.Error("within", at, got)
		}
	}
}

func TestAllWhileTheArenaChanges(t *testing.T) {
	a := claimed(t, 20, 3, 17, 0, 9)
	var got []int
	for at := range a.All() {
		got = append(got, at)
		if e := a.Give(at); e != api.OK {
			t.Fatal(at, e)
		}
		if e := a.Claim(at + 1); e != api.OK {
			t.Fatal(at, e)
		}
	}
	if !slices.Equal(got, []int{0, 3, 9, 17}) {
		t.Error(got)
	}
	if got := slices.Collect(a.All()); !slices.Equal(got, []int{1, 4, 10, 18}) {
		t.Error(got)
	}
}

func TestAllOfNone(t *testing.T) {
	a := of(t, 20)
	for range 2 {
		for at := range a.All() {
			t.Error(at)
		}
	}
}

func TestCopyGoesOnApart(t *testing.T) {
	a := claimed(t, 20, 3, 17, 0, 9)
	if e := a.Give(3); e != api.OK {
		t.Fatal(e)
	}
	c := a.Copy()
	if c == a || !arena.Same(a, c) {
		t.Fatal("no copy")
	}
	again := c.Copy()
	if got, wanted := spent(t, c), slices.DeleteFunc(up(0, 20), a.Taken); !slices.Equal(got, wanted) {
		t.Error(got, wanted)
	}
	if got := slices.Collect(a.All()); !slices.Equal(got, []int{0, 9, 17}) {
		t.Error(got)
	}
	for _, at := range []int{0, 9, 17} {
		if e := a.Give(at); e != api.OK {
			t.Error(at, e)
		}
	}
	if a.Len() != 0 || c.Len() != 20 || again.Len() != 3 {
		t.Error(a.Len(), c.Len(), again.Len())
	}
	if got := spent(t, a); !slices.Equal(got, up(0, 20)) {
		t.Error(got)
	}
	if got, wanted := spent(t, again), slices.DeleteFunc(up(0, 20), func(at int) bool { return at == 0 || at == 9 || at == 17 }); !slices.Equal(got, wanted) {
		t.Error(got, wanted)
	}
}

func TestCopyOfNoPlaces(t *testing.T) {
	a := of(t, 0)
	c := a.Copy()
	if c == nil || !arena.Same(a, c) {
		t.Fatal(c)
	}
	if at, e := c.Take(); at != 0 || e != api.ErrSpent {
		t.Error(at, e)
	}
}

func TestSame(t *testing.T) {
	a := claimed(t, 20, 3, 17)
	for _, c := range []struct {
		other  *arena.Arena
		wanted bool
	}{
		{a, true},
		{claimed(t, 20, 3, 17), true},
		{claimed(t, 20, 17, 3), true},
		{claimed(t, 20, 3), false},
		{claimed(t, 20, 17), false},
		{claimed(t, 20), false},
		{claimed(t, 20, 3, 16), false},
		{claimed(t, 20, 4, 17), false},
		{claimed(t, 20, 3, 16, 17), false},
		{claimed(t, 20, 3, 17, 19), false},
		{claimed(t, 21, 3, 17), false},
		{claimed(t, 19, 3, 17), false},
		{claimed(t, most, 3, 17), false},
	} {
		if got := arena.Same(a, c.other); got != c.wanted {
			t.Error(slices.Collect(c.other.All()), got)
		}
		if got := arena.Same(c.other, a); got != c.wanted {
			t.Error(slices.Collect(c.other.All()), "the other way", got)
		}
	}
	if arena.Same(of(t, 0), of(t, 1)) || !arena.Same(of(t, 0), of(t, 0)) || !arena.Same(full(t, most), full(t, most)) {
		t.Error("of none, or of all")
	}
}

func TestNone(t *testing.T) {
	for _, a := range none() {
		if at, e := a.Take(); at != 0 || e != api.ErrNil {
			t.Error(at, e)
		}
		for _, at := range append(beyond(0), 0, 1) {
			if e := a.Claim(at); e != api.ErrNil {
				t.Error(at, e)
			}
			if e := a.Give(at); e != api.ErrNil {
				t.Error(at, e)
			}
			if a.Taken(at) {
				t.Error(at)
			}
		}
		if a.Len() != 0 || a.Top() != 0 || a.Copy() != nil {
			t.Error(a.Len(), a.Top(), a.Copy())
		}
		all := a.All()
		if all == nil {
			t.Fatal("no iterator")
		}
		for at := range all {
			t.Error(at)
		}
		for _, other := range none() {
			if !arena.Same(a, other) {
				t.Error("not like one that is not there either")
			}
		}
		for _, other := range []*arena.Arena{of(t, 0), of(t, 3), claimed(t, 3, 1)} {
			if arena.Same(a, other) || arena.Same(other, a) {
				t.Error("like one that is there")
			}
		}
	}
}
