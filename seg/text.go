package seg

import (
	"strings"

	"merestone/api"
	"merestone/point"
	"merestone/quit"
)

// comma stands between the nodes of a text.
const comma = ","

// text is A's text, a comma, and B's.
func (l line) text() string {
	return nodeText(l.A) + comma + nodeText(l.B)
}

// nodeText is X, a blank, and Y.
func nodeText(n api.Node) string {
	return quit.Must(point.Text(quit.Must(point.Of(n))))
}

// read is the segment whose text it is; what is no segment's is given up.
func read(text string) api.Seg {
	left, more := text, true
	next := func() string {
		var ahead string
		ahead, left, more = strings.Cut(left, comma)
		return ahead
	}
	s := api.Seg{A: node(next()), B: node(next())}
	if more || Check(s) != api.OK {
		quit.For(api.ErrSeg)
	}
	return s
}

// node is the node whose text it is: that of its point.
func node(text string) api.Node {
	p, e := point.Parse(text)
	n, whole := point.Grid(p)
	if e != api.OK || !whole {
		quit.For(api.ErrSeg)
	}
	return n
}
