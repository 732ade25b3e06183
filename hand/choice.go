package hand

import (
	"slices"

	"pianola/api"
)

// choice is a choice whose elements come one after another: how many of them each sample still lacks, and the sum.
type choice struct {
	first, second int
	sum           int
}

// choices returns how many choices of two samples have which beats.
func (s sample) choices(other sample) ways {
	// In this order there are the fewest sums on the way.
	all := sample(slices.Sorted(pool(s, other)))
	size := len(other)
	// A rank is 1 more than the scores of all elements against this one, and those of the second sample's elements against each other are size * size. What is left is the beats.
	start := choice{first: len(s), second: size, sum: -size - size*size}
	ends := count(pool(all.ranks()), start, func(c choice, _ int) (choice, bool) {
		c.first--
		return c, c.first >= 0
	}, func(c choice, rank int) (choice, bool) {
		c.second--
		c.sum += rank
		return c, c.second >= 0
	})
	w := make(ways)
	for c, n := range ends {
		w[c.sum] = n // no sample lacks anything, so that only the sums differ
	}
	return w
}

// tails is how many choices have at most as many beats, and how many at least as many, of all of them.
type tails struct {
	few, many, all int
}

// tails returns the tails of two samples.
func (s sample) tails(other sample) tails {
	w, beats := s.choices(other), s.beats(other)
	return tails{
		few:  w.number(func(sum int) bool { return sum <= beats }),
		many: w.number(func(sum int) bool { return sum >= beats }),
		all:  w.all(),
	}
}

// chance returns the chance of two samples.
func (s sample) chance(other sample) api.Ratio {
	return s.choices(other).chance(len(s)*len(other), s.beats(other))
}
