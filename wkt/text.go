package wkt

import (
	"strings"

	"merestone/api"
	"merestone/quit"
)

// The words of texts.
const (
	segment = "SEGMENT"
	polygon = "POLYGON"
	multi   = "MULTIPOLYGON"
	none    = multi + " EMPTY"
	open    = "("
	shut    = ")"
	comma   = ","
)

// A text is what is left of one, from which words are taken.
type text struct {
	left string
}

// take takes the one of these words that comes next; where none of them does, the text is given up.
func (t *text) take(words ...string) string {
	for _, word := range words {
		if left, is := strings.CutPrefix(t.left, word); is {
			t.left = left
			return word
		}
	}
	quit.For(api.ErrWkt)
	return ""
}

// ahead takes what stands ahead of the next of these bytes; where none of them comes, the text is given up.
func (t *text) ahead(stops string) string {
	at := strings.IndexAny(t.left, stops)
	if at < 0 {
		quit.For(api.ErrWkt)
	}
	taken := t.left[:at]
	t.left = t.left[at:]
	return taken
}

// end gives up a text of which something is left.
func (t *text) end() {
	if t.left != "" {
		quit.For(api.ErrWkt)
	}
}
