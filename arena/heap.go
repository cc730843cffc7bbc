package arena

import (
	"cmp"
	"slices"
)

// A heap is things of which the least one is at hand.
type heap[T cmp.Ordered] struct {
	line []T // none is less than its parent
}

// parent is the place of the thing that is no greater than the one at i, which is not the first one.
func parent(i int) int {
	return (i - 1) / 2
}

// empty tells if nothing is there.
func (h *heap[T]) empty() bool {
	return len(h.line) == 0
}

// put adds a thing.
func (h *heap[T]) put(x T) {
	h.line = append(h.line, x)
	for i := len(h.line) - 1; i > 0 && h.line[i] < h.line[parent(i)]; i = parent(i) {
		h.swap(i, parent(i))
	}
}

// pull takes out the least thing, where one is there.
func (h *heap[T]) pull() T {
	least, last := h.line[0], len(h.line)-1
	h.swap(0, last)
	h.line = h.line[:last]
	for i, next := 0, h.least(0); next != i; i, next = next, h.least(next) {
		h.swap(i, next)
	}
	return least
}

// least is the place of the least one of the thing at i and those whose parent it is; i, if nothing is there.
func (h *heap[T]) least(i int) int {
	at := i
	for child := 2*i + 1; child <= 2*i+2 && child < len(h.line); child++ {
		if h.line[child] < h.line[at] {
			at = child
		}
	}
	return at
}

// swap lets two things change places.
func (h *heap[T]) swap(i, j int) {
	h.line[i], h.line[j] = h.line[j], h.line[i]
}

// copied is another heap of the same things.
func (h *heap[T]) copied() heap[T] {
	return heap[T]{slices.Clone(h.line)}
}
