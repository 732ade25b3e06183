package torn

import (
	"cmp"
	"slices"
)

// smaller returns the smaller one of two numbers.
func smaller[N cmp.Ordered](n, m N) N {
	if m < n {
		return m
	}
	return n
}

// room returns how many holes all keys together can have in so many rows.
func (x Sheet) room(rows int) int {
	room := 0
	for _, holes := range x.Keys {
		room += smaller(holes, rows)
	}
	return room
}

// isClash reports whether rows are a clash.
func (x Sheet) isClash(rows []int) bool {
	holes := 0
	for _, row := range rows {
		holes += x.Rows[row]
	}
	return holes > x.room(len(rows))
}

// clash returns a clash, and whether there is one. The room depends only on how many rows there are, so that it is enough to look at those with the most holes.
func (x Sheet) clash() (rows []int, ok bool) {
	order := needsOf(x.Rows).order(len(x.Rows))
	for size := 1; size <= len(order); size++ {
		if x.isClash(order[:size]) {
			return slices.Collect(setOf(order[:size]).elements()), true
		}
	}
	return nil, false
}
