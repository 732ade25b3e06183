package leak

import "pianola/api"

// isWithin reports whether a number is from a least to a greatest one.
func isWithin(n, least, greatest int) bool {
	return least <= n && n <= greatest
}

// isPlace reports whether a number is that of a place.
func (n Net) isPlace(place int) bool {
	return isWithin(place, 0, n.Places-1)
}

// check returns the error of a net.
func (n Net) check() api.Errno {
	switch {
	case !isWithin(n.Places, 2, MaxPlaces):
		return api.ErrRange
	case len(n.Tubes) > MaxTubes:
		return api.ErrMany
	}
	for _, t := range n.Tubes {
		if e := n.checkTube(t); e != api.OK {
			return e
		}
	}
	near := n.near(0)
	for place := range n.Places {
		if !near[place] {
			return api.ErrGap
		}
	}
	return api.OK
}

// checkTube returns the error of a tube.
func (n Net) checkTube(t Tube) api.Errno {
	switch {
	case !n.isPlace(t.From) || !n.isPlace(t.To):
		return api.ErrNone
	case t.From == t.To:
		return api.ErrSame
	case !isWithin(t.Leak, 1, MaxLeak):
		return api.ErrRange
	}
	return api.OK
}

// checkEnds returns the error of a net and two places between which air flows.
func (n Net) checkEnds(a, b int) api.Errno {
	if e := n.check(); e != api.OK {
		return e
	}
	switch {
	case !n.isPlace(a) || !n.isPlace(b):
		return api.ErrNone
	case a == b:
		return api.ErrSame
	}
	return api.OK
}

// checkProof returns the error of pressures and a whole, before it is known whether they are right.
func (n Net) checkProof(a, b int, tops []int, under int, whole api.Ratio) api.Errno {
	if e := n.checkEnds(a, b); e != api.OK {
		return e
	}
	switch {
	case len(tops) != n.Places:
		return api.ErrShape
	case !isWithin(under, 1, MaxUnder) || !isWithin(whole.Den, 1, MaxUnder) || !isWithin(whole.Num, 0, MaxUnder):
		return api.ErrRange
	}
	for _, top := range tops {
		if !isWithin(top, 0, under) {
			return api.ErrRange
		}
	}
	return api.OK
}

// checkLeaks returns the error of a net, two places, and spans for its tubes.
func (n Net) checkLeaks(a, b int, leaks []api.Span) api.Errno {
	if e := n.checkEnds(a, b); e != api.OK {
		return e
	}
	if len(leaks) != len(n.Tubes) {
		return api.ErrShape
	}
	for _, l := range leaks {
		if l.Lo < 1 || l.Lo > l.Hi || l.Hi > MaxLeak {
			return api.ErrRange
		}
	}
	return api.OK
}
