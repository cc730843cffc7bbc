package angle_test

import (
	"math"
	"math/big"
	"slices"

	"merestone/api"
)

// most is the greatest X and Y of a way.
const most = 1 << 27

// way is the way there.
func way(x, y int64) api.Way {
	return api.Way{X: x, Y: y}
}

// turn is how far round a way is, in quarters: along the square whose corners are the four ways along the axes.
func turn(w api.Way) *big.Rat {
	far := new(big.Int).Add(new(big.Int).Abs(big.NewInt(w.X)), new(big.Int).Abs(big.NewInt(w.Y)))
	part := new(big.Rat).SetFrac(big.NewInt(w.X), far)
	if w.Y < 0 {
		return part.Add(big.NewRat(3, 1), part)
	}
	return part.Sub(big.NewRat(1, 1), part)
}

// behind is how far, against the clock, b is behind a, in quarters: from 0 up to, not with, 4.
func behind(a, b api.Way) *big.Rat {
	far := new(big.Rat).Sub(turn(b), turn(a))
	if far.Sign() < 0 {
		far.Add(far, big.NewRat(4, 1))
	}
	return far
}

// one tells if both have one turn.
func one(a, b api.Way) bool {
	return turn(a).Cmp(turn(b)) == 0
}

// between tells if c is between a and b.
func between(a, b, c api.Way) bool {
	switch {
	case one(a, c):
		return false
	case one(a, b):
		return true
	}
	return behind(a, c).Cmp(behind(a, b)) < 0
}

// sorted is the ways by their turns.
func sorted(l []api.Way) []api.Way {
	l = slices.Clone(l)
	slices.SortStableFunc(l, func(a, b api.Way) int { return turn(a).Cmp(turn(b)) })
	return l
}

// next is the place of the first one behind w.
func next(w api.Way, l []api.Way) int {
	far := func(v api.Way) *big.Rat {
		if one(w, v) {
			return big.NewRat(4, 1)
		}
		return behind(w, v)
	}
	at := 0
	for i, v := range l {
		if far(v).Cmp(far(l[at])) < 0 {
			at = i
		}
	}
	return at
}

// spread is all ways near the point, and such at the bound, along the axes, across, and close beside one another.
func spread() []api.Way {
	var l []api.Way
	for x := int64(-3); x <= 3; x++ {
		for y := int64(-3); y <= 3; y++ {
			if x != 0 || y != 0 {
				l = append(l, way(x, y))
			}
		}
	}
	for _, x := range []int64{-most, 1 - most, 2 - most, -1, 0, 1, most - 2, most - 1, most} {
		for _, y := range []int64{-most, 1 - most, 2 - most, -1, 0, 1, most - 2, most - 1, most} {
			if max(x, -x, y, -y) > 3 {
				l = append(l, way(x, y))
			}
		}
	}
	return l
}

// few is some ways of all quarters and axes, several of them one.
func few() []api.Way {
	return []api.Way{
		way(1, 0), way(most, 0), way(most, 1), way(2, 1), way(4, 2), way(1, 1), way(most-1, most), way(most-2, most-1), way(0, 1), way(0, 9), way(-1, 5), way(-1, 1), way(-most, 1),
		way(-1, 0), way(-most, -1), way(-3, -3), way(-most, -most), way(-2, -4), way(0, -1), way(0, -most), way(1, -most), way(1, -1), way(7, -7), way(most, 1-most), way(most, -1),
	}
}

// bad is ways that may not be.
func bad() []api.Way {
	l := []api.Way{{}}
	for _, c := range []int64{most + 1, -most - 1, 1 << 28, 1 << 32, -1 << 32, math.MaxInt64, math.MinInt64, math.MinInt64 + 1} {
		l = append(l, way(c, 0), way(0, c), way(c, 1), way(-1, c), way(c, c), way(most, c))
	}
	return l
}

// lists hands over lists of ways, of all lengths below many, the same at each run. In many of them some are one.
func lists(many int, do func(l []api.Way)) {
	seed := uint64(88172645463325252)
	draw := func(n int) int {
		seed ^= seed << 13
		seed ^= seed >> 7
		seed ^= seed << 17
		return int(seed % uint64(n))
	}
	for _, from := range [][]api.Way{spread(), few(), few()[:8], few()[13:18], {way(1, 1), way(2, 2), way(3, 3)}} {
		for n := range many {
			var l []api.Way
			for range n {
				l = append(l, from[draw(len(from))])
			}
			do(l)
		}
	}
}
