package arena_test

import (
	"iter"
	"math"
	"slices"
	"testing"

	"merestone/api"
	"merestone/arena"
)

// most is how many places an arena has at most.
const most = 65536

// plain is places by plain facts: which of them are taken.
type plain []bool

// take takes the least free place.
func (p plain) take() (int, api.Errno) {
	for at, is := range p {
		if !is {
			p[at] = true
			return at, api.OK
		}
	}
	return 0, api.ErrSpent
}

// claim takes this place.
func (p plain) claim(at int) api.Errno {
	if at < 0 || at >= len(p) {
		return api.ErrRange
	}
	if p[at] {
		return api.ErrSpent
	}
	p[at] = true
	return api.OK
}

// give gives this place back.
func (p plain) give(at int) api.Errno {
	if at < 0 || at >= len(p) {
		return api.ErrRange
	}
	if !p[at] {
		return api.ErrNone
	}
	p[at] = false
	return api.OK
}

// list is the places that are taken, rising.
func (p plain) list() []int {
	var l []int
	for at, is := range p {
		if is {
			l = append(l, at)
		}
	}
	return l
}

// top is one more than the last of a rising list.
func top(l []int) int {
	if len(l) == 0 {
		return 0
	}
	return l[len(l)-1] + 1
}

// of is an arena of so many places, which may be.
func of(t *testing.T, many int) *arena.Arena {
	t.Helper()
	a, e := arena.New(many)
	if a == nil || e != api.OK {
		t.Fatal(many, a, e)
	}
	return a
}

// claimed is an arena of so many places, with these taken.
func claimed(t *testing.T, many int, l ...int) *arena.Arena {
	t.Helper()
	a := of(t, many)
	for _, at := range l {
		if e := a.Claim(at); e != api.OK {
			t.Fatal(many, l, at, e)
		}
	}
	return a
}

// full is an arena of so many places, with all taken.
func full(t *testing.T, many int) *arena.Arena {
	t.Helper()
	a := of(t, many)
	for i := range many {
		if at, e := a.Take(); at != i || e != api.OK {
			t.Fatal(many, i, at, e)
		}
	}
	return a
}

// is holds against each other what the arena tells and what it should.
func is(t *testing.T, a *arena.Arena, wanted plain) {
	t.Helper()
	l := wanted.list()
	if got := slices.Collect(a.All()); !slices.Equal(got, l) {
		t.Fatal(got, "are taken, not", l)
	}
	if a.Len() != len(l) {
		t.Fatal(a.Len(), "are taken, not", len(l))
	}
	if a.Top() != top(l) {
		t.Fatal(a.Top(), "is the top, not", top(l), l)
	}
	for at := range wanted {
		if a.Taken(at) != wanted[at] {
			t.Fatal(at, a.Taken(at))
		}
	}
	for _, at := range beyond(len(wanted)) {
		if a.Taken(at) {
			t.Fatal(at, "is taken")
		}
	}
}

// beyond are numbers of which an arena of so many places has none.
func beyond(many int) []int {
	return []int{-1, -2, -most, math.MinInt, math.MinInt32, -1 << 32, many, many + 1, many + most, 1 << 32, 1 << 33, math.MaxInt32, math.MaxInt}
}

// spent takes all places that are free, and tells them.
func spent(t *testing.T, a *arena.Arena) []int {
	t.Helper()
	var l []int
	for {
		at, e := a.Take()
		if e == api.ErrSpent && at == 0 {
			return l
		}
		if e != api.OK || len(l) > most {
			t.Fatal(at, e, len(l))
		}
		l = append(l, at)
	}
}

// up are so many numbers, rising from one on.
func up(from, many int) []int {
	return slices.Collect(count(from, many, 1))
}

// count goes over so many numbers, from one on, each greater by a step than the one ahead of it.
func count(from, many, step int) iter.Seq[int] {
	return func(yield func(int) bool) {
		for i := range many {
			if !yield(from + i*step) {
				return
			}
		}
	}
}

// drawn draws numbers below a bound, always the same ones.
func drawn() func(below int) int {
	state := uint64(88172645463325252)
	return func(below int) int {
		state ^= state << 13
		state ^= state >> 7
		state ^= state << 17
		return int(state % uint64(below))
	}
}

// none are arenas that are not there.
func none() []*arena.Arena {
	return []*arena.Arena{nil, new(arena.Arena), {}}
}
