package point

import (
	"merestone/api"
	"merestone/quit"
	"merestone/ratio"
)

// A spot is a point under way: only when it is settled it is known to be no greater than a point may be.
type spot struct {
	api.Point
}

// after is what p has come to after a step with q.
func after(p api.Point, step func(*spot, api.Point), q api.Point) (api.Point, api.Errno) {
	at := spot{Point: p}
	return at.done(func() {
		quit.For(rightAll(p, q))
		step(&at, q)
	})
}

// done is the point that the spot is when the work is done, or for what the work gave up.
func (p *spot) done(work func()) (api.Point, api.Errno) {
	return quit.Caught(func() api.Point {
		work()
		p.settle()
		return p.Point
	})
}

// settle gives up if the spot is too great for a point.
func (p *spot) settle() {
	if tooGreat(p.X) || tooGreat(p.Y) {
		quit.For(api.ErrOver)
	}
}

// tooGreat tells if a Rat's N is not below 2^96, or its D not below 2^64.
func tooGreat(x api.Rat) bool {
	n, d := x.N.Mag, x.D.Mag
	return n[3]|n[2]|n[1]>>32 != 0 || d[3]|d[2]|d[1] != 0
}

// by moves it as far as q is from 0 0.
func (p *spot) by(q api.Point) {
	p.X = quit.Must(ratio.Add(p.X, q.X))
	p.Y = quit.Must(ratio.Add(p.Y, q.Y))
}

// halfway moves it to the middle of itself and q.
func (p *spot) halfway(q api.Point) {
	p.by(q)
	p.X = quit.Must(ratio.Div(p.X, ratio.Of(2)))
	p.Y = quit.Must(ratio.Div(p.Y, ratio.Of(2)))
}
