package arena_test

import (
	"slices"
	"testing"

	"merestone/api"
	"merestone/arena"
)

// step does one thing that is drawn to both the arena and the plain facts, and holds the answers against each other.
func step(t *testing.T, draw func(int) int, a *arena.Arena, p plain) {
	t.Helper()
	at := draw(len(p)+2) - 1
	what := draw(4)
	switch what {
	case 0, 1:
		got, e := a.Take()
		if wanted, wrong := p.take(); got != wanted || e != wrong {
			t.Fatal("Take", got, e, wanted, wrong)
		}
	case 2:
		if e, wrong := a.Claim(at), p.claim(at); e != wrong {
			t.Fatal("Claim", at, e, wrong)
		}
	case 3:
		if e, wrong := a.Give(at), p.give(at); e != wrong {
			t.Fatal("Give", at, e, wrong)
		}
	}
}

func TestByPlainFacts(t *testing.T) {
	draw := drawn()
	for _, many := range []int{0, 1, 2, 3, 5, 8, 17, 64, 200} {
		for range 20 {
			a, p := of(t, many), make(plain, many)
			for range 6 * many {
				step(t, draw, a, p)
				is(t, a, p)
			}
			c, q := a.Copy(), slices.Clone(p)
			for range 2 * many {
				step(t, draw, a, p)
				step(t, draw, c, q)
			}
			is(t, a, p)
			is(t, c, q)
			if arena.Same(a, c) != slices.Equal(p, q) {
				t.Fatal("Same", p.list(), q.list())
			}
		}
	}
}

func TestByPlainFactsOfMany(t *testing.T) {
	draw := drawn()
	a, p := of(t, most), make(plain, most)
	for range 10 {
		for range 500 {
			step(t, draw, a, p)
		}
		is(t, a, p)
	}
	wanted := slices.DeleteFunc(up(0, most), func(at int) bool { return p[at] })
	if got := spent(t, a); !slices.Equal(got, wanted) {
		t.Error(len(got), len(wanted))
	}
}

func TestNoPlaceIsTakenTwice(t *testing.T) {
	draw := drawn()
	for _, many := range []int{1, 4, 30} {
		a := of(t, many)
		held := map[int]bool{}
		for range 2000 {
			at := draw(many)
			switch draw(3) {
			case 0:
				got, e := a.Take()
				if e == api.OK && held[got] {
					t.Fatal(got, "is taken twice")
				}
				if e == api.OK {
					held[got] = true
				}
			case 1:
				if e := a.Claim(at); e == api.OK && held[at] {
					t.Fatal(at, "is claimed twice")
				}
				held[at] = true
			case 2:
				if e := a.Give(at); (e == api.OK) != held[at] {
					t.Fatal(at, e, held[at])
				}
				delete(held, at)
			}
		}
	}
}

func TestWhatIsTakenAndGivenBackLeavesIt(t *testing.T) {
	draw := drawn()
	for _, many := range []int{1, 5, 40} {
		a, p := of(t, many), make(plain, many)
		for range 300 {
			step(t, draw, a, p)
			before := a.Copy()
			var l []int
			for range draw(many + 1) {
				if at, e := a.Take(); e == api.OK {
					l = append(l, at)
				}
				if at := draw(many); a.Claim(at) == api.OK {
					l = append(l, at)
				}
			}
			for len(l) > 0 {
				i := draw(len(l))
				if e := a.Give(l[i]); e != api.OK {
					t.Fatal(l, i, e)
				}
				l = slices.Delete(l, i, i+1)
			}
			is(t, a, p)
			if !arena.Same(a, before) {
				t.Fatal(p.list())
			}
			if got, wanted := spent(t, a.Copy()), spent(t, before); !slices.Equal(got, wanted) {
				t.Fatal(got, wanted)
			}
		}
	}
}

func TestTheTopWithoutClaim(t *testing.T) {
	draw := drawn()
	for _, many := range []int{1, 5, 40, 300} {
		a := of(t, many)
		greatest := 0
		for range 3000 {
			if draw(2) == 0 {
				a.Take()
			} else {
				a.Give(draw(many))
			}
			greatest = max(greatest, a.Len())
			if a.Top() > greatest {
				t.Fatal(many, a.Top(), greatest)
			}
		}
	}
}

func TestSameDoesNotHangOnTheWayThere(t *testing.T) {
	draw := drawn()
	for _, many := range []int{1, 6, 40} {
		for range 50 {
			a, p := of(t, many), make(plain, many)
			for range 4 * many {
				step(t, draw, a, p)
			}
			other := claimed(t, many, p.list()...)
			if !arena.Same(a, other) || !arena.Same(other, a) {
				t.Fatal(p.list())
			}
			if got, wanted := spent(t, a), spent(t, other); !slices.Equal(got, wanted) {
				t.Fatal(got, wanted)
			}
		}
	}
}
