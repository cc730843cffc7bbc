package point

import (
	"iter"
	"strings"

	"merestone/api"
	"merestone/quit"
	"merestone/ratio"
)

// blank stands between the parts of a text.
const blank = " "

// parts goes over what stands ahead of a text's first blank, and behind it, each with the Rat of which it is the text.
// Without a blank there stands nothing behind it, which is no Rat's text.
func (p *spot) parts(s string) iter.Seq2[*api.Rat, string] {
	return func(yield func(*api.Rat, string) bool) {
		ahead, behind, _ := strings.Cut(s, blank)
		if yield(&p.X, ahead) {
			yield(&p.Y, behind)
		}
	}
}

// read makes it the spot whose text it is. What is no Rat's text counts more than what is too great,
// on whichever side of the blank it stands.
func (p *spot) read(s string) {
	wrong := api.OK
parts:
	for x, text := range p.parts(s) {
		read, e := ratio.Parse(text)
		switch e {
		case api.OK:
			*x = read
		case api.ErrOver:
			wrong = e
		default:
			wrong = api.ErrPoint
			break parts
		}
	}
	quit.For(wrong)
}
