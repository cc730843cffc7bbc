package wkt

import (
	"slices"
	"strings"

	"merestone/api"
	"merestone/point"
	"merestone/quit"
	"merestone/seg"
)

// shapeText is the text of a shape that may be.
func shapeText(s api.Shape) string {
	if s.IsSeg {
		return segment + bracket(func(s api.Seg) string { return quit.Must(seg.Text(s)) }, s.Seg)
	}
	return polygon + bracket(func(l []api.Node) string { return ringText(nodeText, l) }, s.Rings...)
}

// multiText is the text of a multipolygon; what may not be is given up.
func multiText(m api.Multi) string {
	if len(m) == 0 {
		return none
	}
	return multi + bracket(partText, m...)
}

// partText is the bracket of a multipolygon's part.
func partText(rings [][]api.Point) string {
	if len(rings) == 0 {
		quit.For(api.ErrArg)
	}
	return bracket(func(l []api.Point) string { return ringText(pointText, l) }, rings...)
}

// ringText is the bracket of a ring, with its first corner once more behind the last one.
func ringText[P any](text func(P) string, l []P) string {
	if len(l) < fewest {
		quit.For(api.ErrArg)
	}
	return bracket(text, slices.Concat(l, l[:1])...)
}

// bracket is the texts of these, parted by commas, in a bracket.
func bracket[T any](text func(T) string, l ...T) string {
	texts := make([]string, len(l))
	for i, x := range l {
		texts[i] = text(x)
	}
	return open + strings.Join(texts, comma) + shut
}

// nodeText is X, a blank, and Y.
func nodeText(n api.Node) string {
	return pointText(quit.Must(point.Of(n)))
}

// pointText is X's text, a blank, and Y's; a point that may not be is given up.
func pointText(p api.Point) string {
	return quit.Must(point.Text(p))
}
