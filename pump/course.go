package pump

import (
	"iter"
	"slices"
)

// regulator is a regulator at work.
type regulator struct {
	bounds
	waits int // what waits at it
}

// regulatorsOf returns the regulators of a plant, at which nothing waits.
func regulatorsOf(p Plant) []regulator {
	var regulators []regulator
	for _, l := range p.Regulators {
		regulators = append(regulators, regulator{bounds: bounds{list: l}})
	}
	return regulators
}

// has reports whether a capacity has the bounds of the regulator.
func (g regulator) has(capacity []int) bool {
	for _, x := range g.list {
		for end := x.Ticks; end <= len(capacity); end++ {
			if total(capacity[end-x.Ticks:end]...) < x.Amount {
				return false
			}
		}
	}
	return true
}

// slow returns a capacity of so many ticks that has the least in some of them. All others have MaxAmount, which is enough for every bound of which the ticks reach beyond the slow ones.
func (g regulator) slow(ticks, from, length int) []int {
	capacity := slices.Repeat([]int{MaxAmount}, ticks)
	copy(capacity[from:], growth(g.least(length)))
	return capacity
}

// pass adds what comes to what waits, and returns what is passed on.
func (g *regulator) pass(comes, capacity int) int {
	g.waits += comes
	passed := min(g.waits, capacity)
	g.waits -= passed
	return passed
}

// tick is what players take, and what regulators can pass, in a tick.
type tick struct {
	demands    []int
	capacities []int
}

// ticks yields the ticks of a course.
func (c Course) ticks() iter.Seq[tick] {
	return func(yield func(tick) bool) {
		for i := range c.Demands[0] {
			if !yield(tick{demands: at(c.Demands, i), capacities: at(c.Capacities, i)}) {
				return
			}
		}
	}
}

// at returns the numbers that lists have at a position.
func at(lists [][]int, i int) []int {
	var numbers []int
	for _, l := range lists {
		numbers = append(numbers, l[i])
	}
	return numbers
}

// run returns what is demanded and what is delivered up to and with each tick of a course.
func run(p Plant, c Course) (demanded, delivered []int) {
	regulators := regulatorsOf(p)
	in, out := 0, 0
	for t := range c.ticks() {
		flow := total(t.demands...)
		in += flow
		for i := range regulators {
			flow = regulators[i].pass(flow, t.capacities[i])
		}
		out += flow
		demanded, delivered = append(demanded, in), append(delivered, out)
	}
	return demanded, delivered
}
