package quit_test

import (
	"math"
	"testing"

	"merestone/api"
	"merestone/quit"
)

func TestCaught(t *testing.T) {
	if got, e := quit.Caught(func() int { return quit.Must(7, api.OK) }); got != 7 || e != api.OK {
		t.Error(got, e)
	}
	on := false
	for _, wrong := range []api.Errno{api.ErrArg, api.ErrOver} {
		for _, give := range []func(){func() { quit.For(wrong) }, func() { quit.Must(7, wrong) }} {
			got, e := quit.Caught(func() []int {
				give()
				on = true
				return []int{7}
			})
			if got != nil || e != wrong || on {
				t.Error(got, e, on)
			}
		}
	}
}

func TestIn(t *testing.T) {
	l := []int{7, 8, 9}
	for i, wanted := range l {
		if got, e := quit.Caught(func() int { return quit.In(l, i) }); got != wanted || e != api.OK {
			t.Error(i, got, e)
		}
	}
	for _, i := range []int{-1, 3, 4, math.MaxInt, math.MinInt} {
		if got, e := quit.Caught(func() int { return quit.In(l[:3:3], i) }); got != 0 || e != api.ErrRange {
			t.Error(i, got, e)
		}
	}
	if got, e := quit.Caught(func() int { return quit.In([]int(nil), 0) }); got != 0 || e != api.ErrRange {
		t.Error("of none", got, e)
	}
}

func TestAFaultIsNotCaught(t *testing.T) {
	defer func() {
		if gone := recover(); gone != "fault" {
			t.Error(gone)
		}
	}()
	quit.Caught(func() int { panic("fault") })
	t.Error("went on")
}
