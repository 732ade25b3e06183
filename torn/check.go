package torn

import "pianola/api"

// isWithin reports whether a number is from a least to a greatest one.
func isWithin(n, least, greatest int) bool {
	return least <= n && n <= greatest
}

// check returns the error of a sheet.
func (x Sheet) check() api.Errno {
	if e := checkCounts(x.Rows); e != api.OK {
		return e
	}
	return checkCounts(x.Keys)
}

// checkCounts returns the error of the numbers of rows, or of keys.
func checkCounts(counts []int) api.Errno {
	switch {
	case len(counts) == 0:
		return api.ErrEmpty
	case len(counts) > MaxSide:
		return api.ErrMany
	}
	for _, n := range counts {
		if !isWithin(n, 0, MaxSide) {
			return api.ErrRange
		}
	}
	return api.OK
}

// checkSmall returns the error of a sheet whose fillings are counted.
func (x Sheet) checkSmall() api.Errno {
	if e := x.check(); e != api.OK {
		return e
	}
	if len(x.Rows) > MaxSmall || len(x.Keys) > MaxSmall {
		return api.ErrOver
	}
	return api.OK
}

// hasPlace reports whether there is such a row, and such a key.
func (x Sheet) hasPlace(row, key int) bool {
	return isWithin(row, 0, len(x.Rows)-1) && isWithin(key, 0, len(x.Keys)-1)
}

// checkNumbers returns the error of a list of numbers of rows, or of keys, of which there are so many.
func checkNumbers(l []int, size int) api.Errno {
	for i, n := range l {
		switch {
		case !isWithin(n, 0, size-1):
			return api.ErrNone
		case i > 0 && n <= l[i-1]:
			return api.ErrOrder
		}
	}
	return api.OK
}

// checkLists returns the error of the lists of a filling.
func (x Sheet) checkLists(lists [][]int) api.Errno {
	if len(lists) != len(x.Rows) {
		return api.ErrShape
	}
	for _, l := range lists {
		if e := checkNumbers(l, len(x.Keys)); e != api.OK {
			return e
		}
	}
	return api.OK
}

// sum returns what numbers are together.
func sum(numbers []int) int {
	sum := 0
	for _, n := range numbers {
		sum += n
	}
	return sum
}
