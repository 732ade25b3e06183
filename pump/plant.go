package pump

import (
	"slices"

	"pianola/api"
)

// mosts returns the mosts of all players together for 0 ticks, 1 tick, and so on.
func (p Plant) mosts(ticks int) []int {
	sums := make([]int, ticks+1)
	for _, l := range p.Players {
		for n, cover := range (bounds{list: l}).most(ticks) {
			sums[n] += cover.amount
		}
	}
	return sums
}

// row is the rows of regulators for 0 ticks, 1 tick, and so on.
type row struct {
	amounts []int
	shares  [][]int // for each regulator, how many of so many ticks, written as a sum for it and those before it, are its own
}

// rowOf returns the rows of a plant. It begins with no regulator, which has 0 ticks and no other number of them.
func rowOf(p Plant, ticks int) row {
	r := row{amounts: slices.Repeat([]int{api.Never}, ticks+1)}
	r.amounts[0] = 0
	for _, g := range regulatorsOf(p) {
		r = r.with(g.least(ticks))
	}
	return r
}

// with returns the rows with one more regulator, of which the leasts are given.
func (r row) with(leasts []pick) row {
	amounts, own := make([]int, len(leasts)), make([]int, len(leasts))
	for n := range leasts {
		amounts[n] = r.amounts[n]
		for share := 1; share <= n; share++ {
			if sum := r.amounts[n-share] + leasts[share].amount; sum < amounts[n] {
				amounts[n], own[n] = sum, share
			}
		}
	}
	return row{amounts: amounts, shares: append(r.shares, own)}
}

// split returns how many of so many ticks are each regulator's own.
func (r row) split(ticks int) []int {
	parts := make([]int, len(r.shares))
	for i, own := range slices.Backward(r.shares) {
		parts[i] = own[ticks]
		ticks -= own[ticks]
	}
	return parts
}

// greatestLack returns the greatest lack, and the first number of ticks in which it comes about.
//
// The lack after a tick is the greatest difference that comes about as follows: take ticks in a row that end with this one, and divide them, in their order, among the regulators in theirs; the difference is what is demanded in all of these ticks less what the regulators can pass in their own. Since demands and capacities do not depend on each other, the greatest one for n ticks is the mosts less the row.
func greatestLack(mosts, rows []int) (drop, over int) {
	for n, most := range mosts {
		if lack := most - rows[n]; lack > drop {
			drop, over = lack, n
		}
	}
	return drop, over
}

// greatestDelay returns by how many ticks the rows are behind the mosts at most, or a number above MaxRoll. The rows are given for MaxRoll more ticks than the mosts. If one number of ticks is enough, so is each greater one, since rows do not fall.
func greatestDelay(mosts, rows []int) int {
	delay := 0
	for n, most := range mosts {
		for delay <= MaxRoll && rows[n+delay] < most {
			delay++
		}
	}
	return delay
}

// worst returns a course of so many ticks in which the players take the most, and the regulators, one after the other, pass the least.
func (p Plant) worst(ticks int) Course {
	var c Course
	for _, l := range p.Players {
		c.Demands = append(c.Demands, growth(bounds{list: l}.most(ticks)))
	}
	from := 0
	parts := rowOf(p, ticks).split(ticks)
	for i, g := range regulatorsOf(p) {
		c.Capacities = append(c.Capacities, g.slow(ticks, from, parts[i]))
		from += parts[i]
	}
	return c
}
