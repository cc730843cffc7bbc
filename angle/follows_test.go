package angle_test

import (
	"slices"
	"testing"

	"merestone/angle"
	"merestone/api"
)

// must is the answer, where there is one.
func must[T any](answer T, e api.Errno) T {
	if e != api.OK {
		panic(e)
	}
	return answer
}

func TestTheOrderIsOne(t *testing.T) {
	for _, a := range few() {
		for _, b := range few() {
			n := must(angle.Cmp(a, b))
			if must(angle.Cmp(b, a)) != -n {
				t.Fatal(a, b, n)
			}
			for _, c := range few() {
				if n <= 0 && must(angle.Cmp(b, c)) <= 0 && must(angle.Cmp(a, c)) != min(n, must(angle.Cmp(b, c))) {
					t.Fatal(a, b, c)
				}
			}
		}
	}
}

func TestAThirdOneIsBetweenOneWayRound(t *testing.T) {
	for _, a := range few() {
		for _, b := range few() {
			for _, c := range few() {
				if one(a, b) || one(b, c) || one(a, c) {
					continue
				}
				if must(angle.Between(a, b, c)) == must(angle.Between(b, a, c)) {
					t.Fatal(a, b, c)
				}
			}
		}
	}
}

// turned is the way, a quarter turn on.
func turned(w api.Way) api.Way {
	return way(-w.Y, w.X)
}

func TestAQuarterTurn(t *testing.T) {
	for _, a := range spread() {
		if n := must(angle.Quarter(a)); must(angle.Quarter(turned(a))) != (n+1)%4 {
			t.Error(a, n)
		}
		for _, b := range few() {
			for _, c := range few() {
				if must(angle.Between(a, b, c)) != must(angle.Between(turned(a), turned(b), turned(c))) {
					t.Fatal(a, b, c)
				}
			}
		}
	}
}

// over is the way with the other Y.
func over(w api.Way) api.Way {
	return way(w.X, -w.Y)
}

func TestTheOtherY(t *testing.T) {
	for _, a := range few() {
		for _, b := range few() {
			if must(angle.Opposite(a, b)) != must(angle.Opposite(over(a), over(b))) {
				t.Error(a, b)
			}
			for _, c := range few() {
				if must(angle.Between(a, b, c)) != must(angle.Between(over(b), over(a), over(c))) {
					t.Fatal(a, b, c)
				}
			}
		}
	}
}

func TestWhoIsNextIsBehindInTheRound(t *testing.T) {
	l := slices.CompactFunc(sorted(few()), one)
	slices.Reverse(l)
	for a, b := range angle.Round(l...) {
		if at := must(angle.Next(a, l...)); l[at] != b {
			t.Error(a, b, l[at])
		}
		for _, c := range l {
			if must(angle.Between(a, b, c)) {
				t.Error(a, b, c)
			}
		}
	}
}
