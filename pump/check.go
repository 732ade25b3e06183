package pump

import (
	"slices"

	"pianola/api"
)

// isBound reports whether the numbers of a bound are as stated.
func isBound(x Bound) bool {
	return x.Ticks >= 1 && x.Ticks <= MaxTicks && isAmount(x.Amount)
}

// isAmount reports whether a number is from 0 to MaxAmount.
func isAmount(n int) bool {
	return n >= 0 && n <= MaxAmount
}

// checkLists returns the error of the first list of bounds with one.
func checkLists(lists [][]Bound) api.Errno {
	for _, l := range lists {
		if e := CheckBounds(l); e != api.OK {
			return e
		}
	}
	return api.OK
}

// checkTicks returns the error of a number of ticks.
func checkTicks(ticks int) api.Errno {
	if ticks < 0 || ticks > MaxRoll {
		return api.ErrRange
	}
	return api.OK
}

// checkList returns the error of a list of bounds and a number of ticks.
func checkList(l []Bound, ticks int) api.Errno {
	if e := CheckBounds(l); e != api.OK {
		return e
	}
	return checkTicks(ticks)
}

// checkPlant returns the error of a plant and a number of ticks.
func checkPlant(p Plant, ticks int) api.Errno {
	if e := Check(p); e != api.OK {
		return e
	}
	return checkTicks(ticks)
}

// checkCourse returns the error of a course of a plant without an error.
func checkCourse(p Plant, c Course) api.Errno {
	if len(c.Demands) != len(p.Players) || len(c.Capacities) != len(p.Regulators) {
		return api.ErrShape
	}
	lists, ticks := slices.Concat(c.Demands, c.Capacities), len(c.Demands[0])
	if slices.ContainsFunc(lists, func(l []int) bool { return len(l) != ticks }) {
		return api.ErrShape
	}
	if ticks > MaxCourse {
		return api.ErrMany
	}
	for _, l := range lists {
		if slices.ContainsFunc(l, func(n int) bool { return !isAmount(n) }) {
			return api.ErrRange
		}
	}
	if !possible(p, c) {
		return api.ErrRule
	}
	return api.OK
}

// possible reports whether the demands keep the bounds of the players, and the capacities have those of the regulators.
func possible(p Plant, c Course) bool {
	for i, l := range p.Players {
		if !(bounds{list: l}).keeps(c.Demands[i]) {
			return false
		}
	}
	for i, g := range regulatorsOf(p) {
		if !g.has(c.Capacities[i]) {
			return false
		}
	}
	return true
}
