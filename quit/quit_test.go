package quit_test

import (
	"testing"

	"merestone/api"
	"merestone/quit"
)

func TestCaught(t *testing.T) {
	if got, e := quit.Caught(func() int { return quit.Must(7, api.OK) }); got != 7 || e != api.OK {
		t.Error(got, e)
	}
	on := false
	for _, wrong := range []api.Errno{api.ErrArg, api.ErrOver} {
		for _, give := range []func(){func() { quit.For(wrong) }, func() { quit.Must(7, wrong) }} {
			got, e := quit.Caught(func() []int {
				give()
				on = true
				return []int{7}
			})
			if got != nil || e != wrong || on {
				t.Error(got, e, on)
			}
		}
	}
}

func TestAFaultIsNotCaught(t *testing.T) {
	defer func() {
		if gone := recover(); gone != "fault" {
			t.Error(gone)
		}
	}()
	quit.Caught(func() int { panic("fault") })
	t.Error("went on")
}
