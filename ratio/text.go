package ratio

import (
	"iter"
	"strings"

	"merestone/api"
	"merestone/limb"
	"merestone/quit"
)

// stroke stands between the digits of a text.
const stroke = "/"

// digits goes over those ahead of a text's first stroke (behind is false), and those behind it, if there is one.
func digits(s string) iter.Seq2[bool, string] {
	return func(yield func(behind bool, digits string) bool) {
		ahead, rest, both := strings.Cut(s, stroke)
		if yield(false, ahead) && both {
			yield(true, rest)
		}
	}
}

// read makes it the Rat whose text it is. Digits in the wrong form count more than such as are too great,
// on whichever side of the stroke they stand.
func (x *fraction) read(s string) {
	wrong := api.OK
sides:
	for behind, text := range digits(s) {
		n, e := limb.Parse(text)
		switch {
		case e == api.ErrDigits || behind && !isBehind(text):
			wrong = api.ErrRat
			break sides
		case e != api.OK:
			wrong = e
		case behind:
			x.D = n
		default:
			x.N = n
		}
	}
	if wrong == api.OK && Check(x.Rat) != api.OK {
		wrong = api.ErrRat // not in lowest terms
	}
	quit.For(wrong)
}

// isBehind tells if an Int's digits, however many, may stand behind a stroke.
func isBehind(text string) bool {
	return !strings.HasPrefix(text, "-") && text != "0" && text != "1"
}
