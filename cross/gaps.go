package cross

import "merestone/api"

// gaps is how far A and B of one line are off another one: above nought to the left of it, below nought to the right.
type gaps struct {
	a, b int64
}

// gapsTo is how far its ends are off the line m.
func (l line) gapsTo(m line) gaps {
	return gaps{a: m.off(l.A), b: m.off(l.B)}
}

// off is how far n is off the line, so many times as it is long. What is multiplied is at most 2^27, so words are enough.
func (l line) off(n api.Node) int64 {
	return (l.B.X-l.A.X)*(n.Y-l.A.Y) - (l.B.Y-l.A.Y)*(n.X-l.A.X)
}

// aside tells if both ends are off on one side.
func (g gaps) aside() bool {
	return min(g.a, g.b) > 0 || max(g.a, g.b) < 0
}

// across tells if both ends are off, one on each side.
func (g gaps) across() bool {
	return min(g.a, g.b) < 0 && max(g.a, g.b) > 0
}
