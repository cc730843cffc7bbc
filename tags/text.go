package tags

import (
	"strconv"
	"strings"

	"merestone/api"
	"merestone/quit"
)

// read is the tags whose text, which is not empty, it is; else the text is given up. Too many are told last: what
// comes behind them may be wrong still, but is not gathered.
func read(s string) Tags {
	var t Tags
	var long api.Errno
	least := int64(1)
	for word := range strings.SplitSeq(s, " ") {
		least = readNumber(word, least)
		if long == api.OK {
			t, long = t.More(least)
		}
	}
	return quit.Must(t, long)
}

// readNumber is the number whose text it is, if it is none below the least; else the text is given up.
func readNumber(word string, least int64) int64 {
	n, err := strconv.ParseInt(word, 10, 64)
	if err != nil || strconv.FormatInt(n, 10) != word || !may(n) || n < least {
		quit.For(api.ErrTags)
	}
	return n
}
