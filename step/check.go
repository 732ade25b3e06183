package step

import "pianola/api"

// checkPositions returns the error of the positions of a copy.
func checkPositions(positions []int) api.Errno {
	switch {
	case len(positions) == 0:
		return api.ErrEmpty
	case len(positions) > MaxHoles:
		return api.ErrMany
	}
	for _, p := range positions {
		if p < 0 || p > api.MaxTime {
			return api.ErrRange
		}
	}
	return api.OK
}

// checkStep returns the errors of Offsets.
func checkStep(x Sheet, copied, step int) api.Errno {
	if e := Check(x); e != api.OK {
		return e
	}
	if copied < 0 || copied >= len(x.Copies) {
		return api.ErrNone
	}
	if step < 1 || step > MaxStep {
		return api.ErrRange
	}
	return api.OK
}

// checkSpan returns the error of a sheet and a span of steps.
func checkSpan(x Sheet, steps api.Span) api.Errno {
	if e := Check(x); e != api.OK {
		return e
	}
	if steps.Lo < 1 || steps.Lo > steps.Hi || steps.Hi > MaxStep {
		return api.ErrRange
	}
	return api.OK
}

// checkHoles returns the error of the numbers of some of a copy's positions.
func checkHoles(holes []int, positions int) api.Errno {
	if len(holes) == 0 {
		return api.ErrEmpty
	}
	before := -1
	for _, hole := range holes {
		if hole < 0 || hole >= positions {
			return api.ErrNone
		}
		if hole <= before {
			return api.ErrOrder
		}
		before = hole
	}
	return api.OK
}
