package strip

import "pianola/api"

// isWithin reports whether a number is from a least to a greatest one.
func isWithin(n, least, greatest int) bool {
	return least <= n && n <= greatest
}

// check returns the error of a record.
func (r Record) check() api.Errno {
	switch {
	case !isWithin(r.N, 1, MaxTubes), !isWithin(r.Lies, 0, MaxLies):
		return api.ErrRange
	case len(r.Tests) > MaxTests:
		return api.ErrMany
	}
	for _, test := range r.Tests {
		if e := checkStrip(test.Strip, r.N); e != api.OK {
			return e
		}
	}
	return api.OK
}

// checkOpen returns the error of a record for which no further strip is played.
func (r Record) checkOpen() api.Errno {
	if e := r.check(); e != api.OK {
		return e
	}
	switch len(r.possible()) {
	case 0:
		return api.ErrClash
	case 1:
		return api.ErrShut
	}
	return api.OK
}

// checkStrip returns the error of a strip for so many tubes.
func checkStrip(strip []int, tubes int) api.Errno {
	before := -1
	for _, tube := range strip {
		if !isWithin(tube, 0, tubes-1) {
			return api.ErrNone
		}
		if tube <= before {
			return api.ErrOrder
		}
		before = tube
	}
	return api.OK
}

// checkState returns the error of the numbers that are given as a state.
func checkState(state []int) api.Errno {
	if !isWithin(len(state), 1, MaxLies+1) {
		return api.ErrShape
	}
	room := MaxTubes // what is left for the next number: a sum of all of them might not fit
	for _, tubes := range state {
		if !isWithin(tubes, 0, room) {
			return api.ErrRange
		}
		room -= tubes
	}
	return api.OK
}
