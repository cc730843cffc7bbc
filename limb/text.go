package limb

import (
	"strconv"
	"strings"
)

// The greatest power of ten that is a word, and how many noughts it has.
const (
	tens    = 10_000_000_000_000_000_000
	noughts = 19
)

// digits are m's, without noughts ahead.
func (m words) digits() string {
	text := ""
	put := func(part uint64) {
		digits := strconv.FormatUint(part, 10)
		text = strings.Repeat("0", noughts-len(digits)) + digits + text
	}
	for {
		left, part := m.partedByWord(tens)
		if left == (words{}) {
			return strconv.FormatUint(part, 10) + text
		}
		put(part)
		m = left
	}
}

// isText tells if s is of the form of an Int's text, however many digits it has.
func isText(s string) bool {
	digits := strings.TrimPrefix(s, "-")
	if digits == "" || digits[0] == '0' && s != "0" {
		return false
	}
	for i := range len(digits) {
		if digits[i] < '0' || digits[i] > '9' {
			return false
		}
	}
	return true
}

// read makes it the number of a text of that form; it gives up at the digit that makes it too great.
func (n *number) read(s string) {
	digits := strings.TrimPrefix(s, "-")
	for i := range len(digits) {
		next := words{uint64(digits[i] - '0')}
		n.over = addTimes(next[:], n.Mag[:], 10)
		n.Mag = next
		n.settle()
	}
	n.Neg = s != digits
}
