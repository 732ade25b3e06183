package level

import "pianola/api"

// isWithin reports whether a number is from a least to a greatest one.
func isWithin(n, least, greatest int) bool {
	return least <= n && n <= greatest
}

// isCode reports whether the numbers of a code are as stated.
func isCode(c Code) bool {
	return isWithin(c.Set, -MaxSet, MaxSet) &&
		isWithin(c.Want.Lo, 0, MaxLoud) &&
		isWithin(c.Want.Hi, c.Want.Lo, MaxLoud)
}

// isRatio reports whether a fraction has a Num from a least to a greatest one, and a Den as stated.
func isRatio(r api.Ratio, least, greatest int) bool {
	return isWithin(r.Num, least, greatest) && isWithin(r.Den, 1, MaxDen)
}

// isLine reports whether the fractions of a line are as stated.
func isLine(l Line) bool {
	return isRatio(l.Gain, -MaxGain, MaxGain) && isRatio(l.Offset, -MaxOffset, MaxOffset)
}

// isBound reports whether a bound of errors is as stated.
func isBound(bound api.Ratio) bool {
	return isRatio(bound, 0, MaxGain)
}

// check returns the error of a coding.
func (c coding) check() api.Errno {
	switch {
	case len(c) == 0:
		return api.ErrEmpty
	case len(c) > MaxCodes:
		return api.ErrMany
	}
	for i, code := range c {
		if !isCode(code) {
			return api.ErrRange
		}
		if i > 0 && code.Set <= c[i-1].Set {
			return api.ErrOrder
		}
	}
	return api.OK
}

// checkProof returns the error of the indices that are given as a proof.
func (c coding) checkProof(codes []int) api.Errno {
	if len(codes) != 1 && len(codes) != 3 {
		return api.ErrShape
	}
	before := -1
	for _, index := range codes {
		if !isWithin(index, 0, len(c)-1) {
			return api.ErrNone
		}
		if index <= before {
			return api.ErrOrder
		}
		before = index
	}
	return api.OK
}
