package pump_test

import (
	"iter"
	"math/rand"
	"slices"

	"pianola/pump"
)

// The reference follows the chapter's definitions word by word, and tries everything.

// sum returns the sum of numbers.
func sum(l []int) int {
	n := 0
	for _, x := range l {
		n += x
	}
	return n
}

// keeps reports whether any Ticks or fewer ticks in a row of a demand have at most Amount.
func keeps(l []pump.Bound, demand []int) bool {
	for _, b := range l {
		for ticks := range b.Ticks + 1 {
			for from := 0; from+ticks <= len(demand); from++ {
				if sum(demand[from:from+ticks]) > b.Amount {
					return false
				}
			}
		}
	}
	return true
}

// has reports whether any Ticks ticks in a row of a capacity have at least Amount.
func has(l []pump.Bound, capacity []int) bool {
	for _, b := range l {
		for from := 0; from+b.Ticks <= len(capacity); from++ {
			if sum(capacity[from:from+b.Ticks]) < b.Amount {
				return false
			}
		}
	}
	return true
}

// sequences yields all lists of so many numbers from 0 to a greatest one.
func sequences(ticks, greatest int) iter.Seq[[]int] {
	return func(yield func([]int) bool) {
		l := make([]int, ticks)
		for {
			if !yield(l) {
				return
			}
			i := 0
			for i < ticks && l[i] == greatest {
				l[i] = 0
				i++
			}
			if i == ticks {
				return
			}
			l[i]++
		}
	}
}

// kept returns the lists of so many numbers that a function accepts together with the bounds. No number above all Amounts, plus one, is needed.
func kept(l []pump.Bound, ticks int, accepts func([]pump.Bound, []int) bool) [][]int {
	greatest := 0
	for _, b := range l {
		greatest = max(greatest, b.Amount)
	}
	var all [][]int
	for s := range sequences(ticks, greatest+1) {
		if accepts(l, s) {
			all = append(all, slices.Clone(s))
		}
	}
	return all
}

// mostOf returns the greatest sum of a demand.
func mostOf(l []pump.Bound, ticks int) int {
	most := 0
	for _, demand := range kept(l, ticks, keeps) {
		most = max(most, sum(demand))
	}
	return most
}

// leastOf returns the smallest sum of a capacity.
func leastOf(l []pump.Bound, ticks int) int {
	least := -1
	for _, capacity := range kept(l, ticks, has) {
		if least < 0 || sum(capacity) < least {
			least = sum(capacity)
		}
	}
	return least
}

// rowOf returns the smallest sum of leasts over all ways to write ticks as a sum.
func rowOf(regulators [][]pump.Bound, ticks int) int {
	if len(regulators) == 1 {
		return leastOf(regulators[0], ticks)
	}
	row := -1
	for own := range ticks + 1 {
		if n := leastOf(regulators[0], own) + rowOf(regulators[1:], ticks-own); row < 0 || n < row {
			row = n
		}
	}
	return row
}

// combined yields all ways to take one element of each list.
func combined(lists [][][]int) iter.Seq[[][]int] {
	return func(yield func([][]int) bool) {
		if len(lists) == 0 {
			yield(nil)
			return
		}
		for rest := range combined(lists[1:]) {
			for _, first := range lists[0] {
				if !yield(append([][]int{first}, rest...)) {
					return
				}
			}
		}
	}
}

// courses yields all courses of so many ticks, with the numbers that matter.
func courses(p pump.Plant, ticks int) iter.Seq[pump.Course] {
	var choices [][][]int
	for _, l := range p.Players {
		choices = append(choices, kept(l, ticks, keeps))
	}
	for _, l := range p.Regulators {
		choices = append(choices, kept(l, ticks, has))
	}
	return func(yield func(pump.Course) bool) {
		for all := range combined(choices) {
			if !yield(pump.Course{Demands: all[:len(p.Players)], Capacities: all[len(p.Players):]}) {
				return
			}
		}
	}
}

// lacksOf returns lacks and delays of a course: it moves each unit of air, which is known by the tick in which it was demanded, from regulator to regulator.
func lacksOf(c pump.Course) (lacks, delays []int) {
	ticks := len(c.Demands[0])
	waiting := make([][]int, len(c.Capacities))
	last := make([]int, ticks) // the tick in which the last unit of a tick is delivered
	for now := range ticks {
		for _, demand := range c.Demands {
			waiting[0] = append(waiting[0], slices.Repeat([]int{now}, demand[now])...)
		}
		lack := 0
		for i, capacity := range c.Capacities {
			passed := min(capacity[now], len(waiting[i]))
			for _, unit := range waiting[i][:passed] {
				if i+1 < len(waiting) {
					waiting[i+1] = append(waiting[i+1], unit)
				} else {
					last[unit] = now
				}
			}
			waiting[i] = slices.Clone(waiting[i][passed:])
		}
		for _, units := range waiting {
			lack += len(units)
		}
		lacks = append(lacks, lack)
	}
	for _, units := range waiting {
		for _, unit := range units {
			last[unit] = ticks
		}
	}
	for now := range ticks {
		delay := max(0, slices.Max(last[:now+1])-now)
		if now+delay >= ticks {
			delay = -1
		}
		delays = append(delays, delay)
	}
	return lacks, delays
}

// dropOf returns the greatest lack after a tick of a course.
func dropOf(p pump.Plant, ticks int) int {
	drop := 0
	for c := range courses(p, ticks) {
		lacks, _ := lacksOf(c)
		for _, lack := range lacks {
			drop = max(drop, lack)
		}
	}
	return drop
}

// isDelay reports whether in all courses each tick whose index is less than ticks, and after which k more ticks follow, has a delay of at most k.
func isDelay(p pump.Plant, ticks, k int) bool {
	for c := range courses(p, ticks+k) {
		_, delays := lacksOf(c)
		for _, delay := range delays[:ticks] {
			if delay < 0 || delay > k {
				return false
			}
		}
	}
	return true
}

// list returns a list.
func list(l ...int) []int { return l }

// lists returns a list of lists.
func lists(l ...[]int) [][]int { return l }

// bounds returns bounds: ticks, amount, ticks, amount, and so on.
func bounds(l ...int) []pump.Bound {
	var out []pump.Bound
	for i := 0; i+1 < len(l); i += 2 {
		out = append(out, pump.Bound{Ticks: l[i], Amount: l[i+1]})
	}
	return out
}

// rows returns a list of lists of bounds.
func rows(l ...[]pump.Bound) [][]pump.Bound { return l }

// simple returns a plant of one player and one regulator.
func simple(player, regulator []pump.Bound) pump.Plant {
	return pump.Plant{Players: rows(player), Regulators: rows(regulator)}
}

// exampleL, exampleK, exampleP and exampleQ are L, K, P and Q of the chapter's examples.
func exampleL() []pump.Bound { return bounds(1, 5, 3, 9) }

func exampleK() []pump.Bound { return bounds(2, 4, 5, 15) }

func exampleP() pump.Plant { return simple(exampleL(), exampleK()) }

func exampleQ() pump.Plant {
	return pump.Plant{Players: rows(exampleL()), Regulators: rows(exampleK(), exampleK())}
}

// newRandom returns the numbers that all runs of the tests share.
func newRandom() *rand.Rand { return rand.New(rand.NewSource(40)) }

// anyBounds returns from 1 to most bounds, with Ticks and Amounts up to greatest ones.
func anyBounds(r *rand.Rand, most, ticks, amount int) []pump.Bound {
	var l []pump.Bound
	for range 1 + r.Intn(most) {
		l = append(l, pump.Bound{Ticks: 1 + r.Intn(ticks), Amount: r.Intn(amount + 1)})
	}
	return l
}

// anyLists returns so many lists of bounds.
func anyLists(r *rand.Rand, n, most, ticks, amount int) [][]pump.Bound {
	var all [][]pump.Bound
	for range n {
		all = append(all, anyBounds(r, most, ticks, amount))
	}
	return all
}

// largePlant returns a plant of any size, with Ticks up to a greatest number. Its regulators pass, on average, about as much as the players take.
func largePlant(r *rand.Rand, ticks int) pump.Plant {
	var p pump.Plant
	for range 1 + r.Intn(pump.MaxRow) {
		p.Players = append(p.Players, even(r, ticks, 20))
	}
	for range 1 + r.Intn(pump.MaxRow) {
		p.Regulators = append(p.Regulators, even(r, ticks, 25*len(p.Players)))
	}
	return p
}

// even returns bounds whose Amounts are from a half of to one and a half times as much as so much for each tick.
func even(r *rand.Rand, ticks, each int) []pump.Bound {
	l := anyBounds(r, pump.MaxBounds, ticks, 0)
	for i := range l {
		l[i].Amount = l[i].Ticks * (each/2 + r.Intn(each+1))
	}
	return l
}

// anyCourse returns a course of a plant: each demand takes a part of what its bounds leave, and each capacity is what its bounds need, and sometimes more.
func anyCourse(r *rand.Rand, p pump.Plant, ticks int) pump.Course {
	var c pump.Course
	for _, l := range p.Players {
		c.Demands = append(c.Demands, anyDemand(r, l, ticks))
	}
	for _, l := range p.Regulators {
		c.Capacities = append(c.Capacities, anyCapacity(r, l, ticks))
	}
	return c
}

// anyDemand returns a demand that keeps bounds.
func anyDemand(r *rand.Rand, l []pump.Bound, ticks int) []int {
	var demand []int
	pause := 1 + r.Intn(5)
	for now := range ticks {
		left := pump.MaxAmount
		for _, b := range l {
			left = min(left, b.Amount-sum(demand[max(0, now+1-b.Ticks):]))
		}
		if r.Intn(pause) > 0 {
			left = r.Intn(left + 1)
		}
		demand = append(demand, left)
	}
	return demand
}

// anyCapacity returns a capacity that has bounds.
func anyCapacity(r *rand.Rand, l []pump.Bound, ticks int) []int {
	var capacity []int
	extra := r.Intn(5)
	for now := range ticks {
		need := 0
		for _, b := range l {
			if from := now + 1 - b.Ticks; from >= 0 {
				need = max(need, b.Amount-sum(capacity[from:]))
			}
		}
		capacity = append(capacity, min(pump.MaxAmount, need+r.Intn(extra+1)))
	}
	return capacity
}
