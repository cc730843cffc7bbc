package arena

import "merestone/api"

// unless is a doubt: it tells what is wrong, unless it is right.
func unless(right func() bool, e api.Errno) func() api.Errno {
	return func() api.Errno {
		if right() {
			return api.OK
		}
		return e
	}
}

// firstWrong is what the first doubt tells that tells anything. None behind it is asked: it may build on those ahead.
func firstWrong(doubts ...func() api.Errno) api.Errno {
	for _, doubt := range doubts {
		if e := doubt(); e != api.OK {
			return e
		}
	}
	return api.OK
}

// there tells if it is an arena that New or Copy made.
func (a *Arena) there() bool {
	return a != nil && a.taken != nil
}

// has tells if there is such a place.
func (a *Arena) has(at int) bool {
	return at >= 0 && at < a.many
}

// leastFree is the least free place, if one is free. It no longer stands in the heap; no more do the taken ones
// that waited there ahead of it.
func (a *Arena) leastFree() int {
	for !a.empty() {
		at := a.pull()
		if !a.Taken(at) {
			return at
		}
		a.taken[at] = holding{}
	}
	a.reach(a.mark)
	return a.pull()
}

// reach moves the mark behind the place, if it is not there yet: what the mark passes is free.
func (a *Arena) reach(at int) {
	for ; a.mark <= at; a.mark++ {
		a.put(a.mark)
	}
}

// hold takes the place, which is free and below the mark.
func (a *Arena) hold(at int, how holding) {
	a.taken[at] = how
	a.top = max(a.top, at+1)
}

// free gives the place back, which is taken.
func (a *Arena) free(at int) {
	if !a.taken[at].waits {
		a.put(at)
	}
	delete(a.taken, at)
	for a.top > 0 && !a.Taken(a.top-1) {
		a.top--
	}
}
