package wkt_test

import (
	"testing"

	"merestone/api"
	"merestone/wkt"
)

func TestParseOfTextIsTheShape(t *testing.T) {
	for _, s := range good() {
		text, e := wkt.Text(s)
		if e != api.OK {
			t.Error(s, e)
		}
		if got, e := wkt.Parse(text); !alike(got, s) || !wkt.Same(got, s) || e != api.OK {
			t.Error(s, text, got, e)
		}
	}
}

func TestTextOfParseIsTheText(t *testing.T) {
	draw := drawn()
	read := 0
	for _, s := range good() {
		whole := []byte(text(s))
		for range 40 {
			changed := whole
			if len(changed) < 400 { // one byte is another one
				changed = []byte(text(s))
				changed[draw(len(changed))] = "0123456789-(), "[draw(15)]
			}
			shape, e := wkt.Parse(string(changed))
			if e != api.OK {
				continue
			}
			read++
			if got, e := wkt.Text(shape); got != string(changed) || e != api.OK {
				t.Error(string(changed), got, e)
			}
		}
	}
	if read < 500 {
		t.Error("too few were read", read)
	}
}
