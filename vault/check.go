package vault

import "pianola/api"

// isWithin reports whether a number is from a least to a greatest one.
func isWithin(n, least, greatest int) bool {
	return least <= n && n <= greatest
}

// isNumber reports whether there is such a number of the field.
func isNumber(n int) bool {
	return isWithin(n, 0, Prime-1)
}

// checkCoefficients returns the error of coefficients.
func checkCoefficients(coefficients []int) api.Errno {
	switch {
	case len(coefficients) == 0:
		return api.ErrEmpty
	case len(coefficients) > MaxNeed:
		return api.ErrMany
	}
	for _, c := range coefficients {
		if !isNumber(c) {
			return api.ErrRange
		}
	}
	return api.OK
}

// check returns the error of shares of which so many are needed.
func check(need int, shares []Share) api.Errno {
	switch {
	case !isWithin(need, 1, MaxNeed):
		return api.ErrRange
	case len(shares) > MaxKeepers:
		return api.ErrMany
	}
	var met [MaxKeepers + 1]bool
	for _, s := range shares {
		if !isWithin(s.Keeper, 1, MaxKeepers) || !isNumber(s.Value) {
			return api.ErrRange
		}
		if met[s.Keeper] {
			return api.ErrTwice
		}
		met[s.Keeper] = true
	}
	return api.OK
}

// checkWhole returns the error of shares that cannot restore a polynomial.
func checkWhole(need int, shares []Share) api.Errno {
	if e := check(need, shares); e != api.OK {
		return e
	}
	switch {
	case len(shares) < need:
		return api.ErrNone
	case !agree(need, shares):
		return api.ErrClash
	}
	return api.OK
}
