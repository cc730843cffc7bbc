package arena

import (
	"slices"
	"testing"

	"merestone/api"
)

func TestHeap(t *testing.T) {
	for many := range 40 {
		for _, factor := range []int{1, 7, 13, 29} {
			var h heap[int]
			var l []int
			for i := range many {
				x := i * factor % 31 // some of them twice
				h.put(x)
				l = append(l, x)
			}
			slices.Sort(l)
			for _, x := range l {
				if got := h.pull(); got != x {
					t.Fatal(many, factor, got, x)
				}
			}
			if !h.empty() {
				t.Fatal(many, factor)
			}
		}
	}
}

func TestHeapOfTexts(t *testing.T) {
	var h heap[string]
	for _, s := range []string{"b", "", "c", "a"} {
		h.put(s)
	}
	c := h.copied()
	if a, b := h.pull(), h.pull(); a != "" || b != "a" {
		t.Error(a, b)
	}
	if len(c.line) != 4 || c.pull() != "" {
		t.Error(c.line)
	}
}

// TestNoPlaceWaitsTwice is of what is kept: no more than each place once, whatever comes and goes.
func TestNoPlaceWaitsTwice(t *testing.T) {
	const many = 9
	a, _ := New(many)
	for i := range 5000 {
		if at, e := a.Take(); i%3 == 0 && e == api.OK {
			a.Give(at)
		}
		a.Claim(i * 7 % many)
		a.Give(i * 5 % many)
		a.Give(i * i % many)
		waiting := slices.Sorted(slices.Values(a.line))
		if once := slices.Compact(slices.Clone(waiting)); len(once) != len(waiting) || len(waiting) > many {
			t.Fatal(i, waiting)
		}
		for _, at := range waiting {
			if a.Taken(at) != a.taken[at].waits {
				t.Fatal(i, at)
			}
		}
	}
}
