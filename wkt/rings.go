package wkt

import (
	"slices"

	"merestone/api"
	"merestone/point"
)

// fewest is how many corners a ring has at least.
const fewest = 3

// checkRings tells what is wrong with a shape that is rings. ErrArg of any of them counts more than too many corners.
func checkRings(s api.Shape) api.Errno {
	if s.Seg != (api.Seg{}) || len(s.Rings) == 0 {
		return api.ErrArg
	}
	corners := 0
	for _, l := range s.Rings {
		if len(l) < fewest || slices.ContainsFunc(l, isWrong) {
			return api.ErrArg
		}
		corners += len(l)
	}
	if corners > api.MaxCorners {
		return api.ErrLong
	}
	return api.OK
}

// isWrong tells if a node may not be.
func isWrong(n api.Node) bool {
	return point.Check(n) != api.OK
}
