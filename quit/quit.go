// Package quit lets work be given up where it comes to an error. It is no layer of the document: layers share it.
package quit

import "merestone/api"

// Caught is what the work answers, or for what it gave up.
func Caught[T any](work func() T) (answer T, e api.Errno) {
	defer func() {
		gone := recover()
		if gone == nil {
			return
		}
		why, ok := gone.(api.Errno)
		if !ok {
			panic(gone) // no answer of the document's, but a fault in here
		}
		e = why
	}()
	return work(), api.OK
}

// For gives up for an error, if it is one.
func For(e api.Errno) {
	if e != api.OK {
		panic(e)
	}
}

// Must is the answer; where there is none, the work is given up.
func Must[T any](x T, e api.Errno) T {
	For(e)
	return x
}

// In is what stands at a place of a list; where there is no such place, the work is given up.
func In[T any](l []T, i int) T {
	if i < 0 || i >= len(l) {
		For(api.ErrRange)
	}
	return l[i]
}
