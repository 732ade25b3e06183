package pump

import (
	"cmp"
	"slices"
)

// none stands for the last bound of a list that has no bound.
const none = -1

// pick is a cover or a packing, told by its last bound.
type pick struct {
	amount int // the Amounts of all its bounds together
	bound  int // the index of its last bound, or none
	before int // the number of ticks for which the rest of it was picked
}

// lowFirst compares picks so that the one with the lower amount is first.
func (p pick) lowFirst(other pick) int {
	return cmp.Compare(p.amount, other.amount)
}

// highFirst compares picks so that the one with the higher amount is first.
func (p pick) highFirst(other pick) int {
	return cmp.Compare(other.amount, p.amount)
}

// bestOf returns the best choice for each number of ticks from 0 on: of the choices that extend the best ones for fewer ticks, the first one in the order.
func bestOf[T any](ticks int, empty T, extend func(fewer []T) []T, order func(a, b T) int) []T {
	best := []T{empty}
	for range ticks {
		best = append(best, slices.MinFunc(extend(best), order))
	}
	return best
}

// bounds is a list of bounds.
type bounds struct {
	list []Bound
}

// covers returns, of one tick more than there are picks, the covers that consist of a bound and the pick for the ticks that it leaves.
func (b bounds) covers(fewer []pick) []pick {
	var covers []pick
	for i, x := range b.list {
		before := max(0, len(fewer)-x.Ticks)
		covers = append(covers, pick{amount: fewer[before].amount + x.Amount, bound: i, before: before})
	}
	return covers
}

// packings returns, in one tick more than there are picks, the packing that leaves a tick empty, and those that consist of a bound and the pick for the ticks that it leaves.
func (b bounds) packings(fewer []pick) []pick {
	packings := []pick{fewer[len(fewer)-1]}
	for i, x := range b.list {
		if before := len(fewer) - x.Ticks; before >= 0 {
			packings = append(packings, pick{amount: fewer[before].amount + x.Amount, bound: i, before: before})
		}
	}
	return packings
}

// most returns the covers with the lowest amounts for 0 ticks, 1 tick, and so on; these amounts are the mosts.
func (b bounds) most(ticks int) []pick {
	return bestOf(ticks, pick{bound: none}, b.covers, pick.lowFirst)
}

// least returns the packings with the highest amounts in 0 ticks, 1 tick, and so on; these amounts are the leasts.
func (b bounds) least(ticks int) []pick {
	return bestOf(ticks, pick{bound: none}, b.packings, pick.highFirst)
}

// indices returns the bounds of the last one of the picks, in ascending order.
func indices(picks []pick) []int {
	var list []int
	for p := picks[len(picks)-1]; p.bound != none; p = picks[p.before] {
		list = append(list, p.bound)
	}
	slices.Sort(list)
	return list
}

// growth returns by how much the amount grows with each tick. The most for some ticks grows by at most the most for n within n more ticks, since covers of both are, together, a cover of all; so the growth of mosts is a demand that keeps the bounds. In the same way, the growth of leasts is a capacity that has them.
func growth(picks []pick) []int {
	var grown []int
	for n := 1; n < len(picks); n++ {
		grown = append(grown, picks[n].amount-picks[n-1].amount)
	}
	return grown
}

// total returns the sum of numbers.
func total(numbers ...int) int {
	sum := 0
	for _, n := range numbers {
		sum += n
	}
	return sum
}

// keeps reports whether a demand keeps the bounds. Fewer than Ticks ticks are looked at only where the demand begins, since elsewhere one more tick does not have less.
func (b bounds) keeps(demand []int) bool {
	for _, x := range b.list {
		for end := 1; end <= len(demand); end++ {
			if total(demand[max(0, end-x.Ticks):end]...) > x.Amount {
				return false
			}
		}
	}
	return true
}
