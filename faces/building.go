package faces

import (
	"slices"

	"merestone/api"
	"merestone/quit"
)

// A building is faces under way: at first each has its border alone.
type building struct {
	api.Faces
	plan  api.Plan
	mesh  api.Mesh
	least []int       // of each cycle the least of its points, or none
	told  map[int]int // of cycles the faces that are known
}

// begun is the faces without their holes.
func begun(p api.Plan, m api.Mesh) *building {
	b := &building{plan: p, mesh: m, least: leasts(m), told: map[int]int{}}
	b.Border = []int{none}
	for c, outside := range m.Outside {
		if !outside {
			b.told[c] = len(b.Border)
			b.Border = append(b.Border, c)
		}
	}
	b.Holes = make([][]int, len(b.Border))
	return b
}

// leasts is of each cycle the least of its points, or none. A plan's points are in order: the least is that of the
// least place.
func leasts(m api.Mesh) []int {
	least := slices.Repeat([]int{none}, len(m.Outside))
	for h, c := range m.Cycle[:min(len(m.Cycle), len(m.From))] {
		if c < 0 || c >= len(least) {
			continue
		}
		if at := m.From[h]; least[c] == none || at < least[c] {
			least[c] = at
		}
	}
	return least
}

// face is that of a cycle: whose border it is, or that of what is under it, down to what is known.
func (b *building) face(c int) int {
	f, known := b.told[c]
	if known {
		return f
	}
	b.told[c] = 0 // ahead of asking on: in a mesh that is none, cycles may be under one another
	if lower, e := b.below(c); e == api.OK {
		b.told[c] = b.face(lower)
	}
	return b.told[c]
}

// below is the cycle over the edge that is under the least point of a cycle; ErrNone where there is none.
func (b *building) below(c int) (int, api.Errno) {
	return quit.Caught(func() int {
		k, is, e := Under(b.plan, quit.In(b.plan.Points, quit.In(b.least, c)))
		quit.For(e)
		if !is {
			quit.For(api.ErrNone)
		}
		return quit.In(b.mesh.Cycle, 2*k)
	})
}
