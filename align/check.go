package align

import "pianola/api"

// isWithin reports whether a number is from a least to a greatest one.
func isWithin(n, least, greatest int) bool {
	return least <= n && n <= greatest
}

// isEvent reports whether the numbers of an event are as stated.
func isEvent(e Event) bool {
	return isWithin(e.Key, 1, api.MaxKeys) && isWithin(e.Loud, 0, MaxLoud) && isWithin(e.Gap, 0, MaxGap)
}

// check returns the error of a roll.
func (r Roll) check() api.Errno {
	switch {
	case len(r) == 0:
		return api.ErrEmpty
	case len(r) > MaxEvents:
		return api.ErrMany
	}
	for _, event := range r {
		if !isEvent(event) {
			return api.ErrRange
		}
	}
	return api.OK
}

// firstError returns the error of the first roll that has one.
func firstError(check func(Roll) api.Errno, all ...Roll) api.Errno {
	for _, roll := range all {
		if e := check(roll); e != api.OK {
			return e
		}
	}
	return api.OK
}

// checkWalk returns the error of pairs that are given as a walk.
func (r rolls) checkWalk(walk []Pair) api.Errno {
	if len(walk) == 0 {
		return api.ErrEmpty
	}
	for i, pair := range walk {
		switch {
		case !r.has(pair):
			return api.ErrNone
		case i == 0 && pair != r.start(), i > 0 && !r.isMove(walk[i-1], pair):
			return api.ErrOrder
		}
	}
	if walk[len(walk)-1] != r.end() {
		return api.ErrGap
	}
	return api.OK
}

// checkBarrier returns the error of pairs that are given as a barrier for a height.
func (r rolls) checkBarrier(height int, barrier []Pair) api.Errno {
	if len(barrier) == 0 {
		return api.ErrEmpty
	}
	for i, pair := range barrier {
		switch {
		case !r.has(pair):
			return api.ErrNone
		case i > 0 && !pair.canFollow(barrier[i-1]):
			return api.ErrGap
		case r.distance(pair) <= height:
			return api.ErrProof
		}
	}
	if !r.canBegin(barrier[0]) || !r.canEnd(barrier[len(barrier)-1]) {
		return api.ErrOrder
	}
	return api.OK
}
