package hand

import (
	"iter"

	"pianola/api"
)

// ways is how many ways have which sum.
type ways map[int]int

// count returns how many ways lead to each state. The ranks come one after another, and each step is a way to go on with one of them: it returns the state that follows, and whether there can be such a way.
func count[S comparable](ranks iter.Seq[int], start S, steps ...func(before S, rank int) (after S, ok bool)) map[S]int {
	states := map[S]int{start: 1}
	for rank := range ranks {
		next := make(map[S]int)
		for before, n := range states {
			for _, step := range steps {
				if after, ok := step(before, rank); ok {
					next[after] += n
				}
			}
		}
		states = next
	}
	return states
}

// number returns how many ways have a sum that is asked for.
func (w ways) number(isAsked func(sum int) bool) int {
	number := 0
	for sum, n := range w {
		if isAsked(sum) {
			number += n
		}
	}
	return number
}

// all returns how many ways there are.
func (w ways) all() int {
	return w.number(func(int) bool { return true })
}

// chance returns which part of all ways have sums that are at least as far from the middle as one of them.
func (w ways) chance(middle, one int) api.Ratio {
	far := distance(one, middle)
	return lowest(w.number(func(sum int) bool { return distance(sum, middle) >= far }), w.all())
}
