package hand

import "pianola/api"

// isWithin reports whether a number is from a least to a greatest one.
func isWithin(n, least, greatest int) bool {
	return least <= n && n <= greatest
}

// isDelay reports whether a number can be a delay.
func isDelay(n int) bool {
	return isWithin(n, -MaxDelay, MaxDelay)
}

// check returns the error of the first list with one.
func check(lists ...[]int) api.Errno {
	for _, l := range lists {
		if e := checkList(l); e != api.OK {
			return e
		}
	}
	return api.OK
}

// checkList returns the error of a list of delays.
func checkList(l []int) api.Errno {
	switch {
	case len(l) == 0:
		return api.ErrEmpty
	case len(l) > MaxNotes:
		return api.ErrMany
	}
	for _, n := range l {
		if !isDelay(n) {
			return api.ErrRange
		}
	}
	return api.OK
}

// checkSpans returns the error of two lists of spans of delays. Unlike that of two lists of delays, it is not the first list that decides.
func checkSpans(a, b []api.Span) api.Errno {
	switch {
	case min(len(a), len(b)) == 0:
		return api.ErrEmpty
	case max(len(a), len(b)) > MaxNotes:
		return api.ErrMany
	case !areSpans(a) || !areSpans(b):
		return api.ErrRange
	}
	return api.OK
}

// areSpans reports whether all spans are valid ones of delays.
func areSpans(spans []api.Span) bool {
	for _, s := range spans {
		if s.Lo > s.Hi || !isDelay(s.Lo) || !isDelay(s.Hi) {
			return false
		}
	}
	return true
}

// checkRolls returns the error of known rolls.
func checkRolls(rolls [][]int) api.Errno {
	switch {
	case len(rolls) == 0:
		return api.ErrEmpty
	case len(rolls) > MaxRolls:
		return api.ErrMany
	}
	return check(rolls...)
}

// isLevel reports whether a fraction can be a level; it need not be in lowest terms.
func isLevel(level api.Ratio) bool {
	return isWithin(level.Num, 0, MaxLevel) && isWithin(level.Den, 1, MaxLevel)
}
