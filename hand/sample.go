package hand

import (
	"cmp"
	"iter"
)

// sample is a list of numbers that are compared.
type sample []int

// pool yields the elements of samples, one sample after another.
func pool(samples ...sample) iter.Seq[int] {
	return func(yield func(int) bool) {
		for _, s := range samples {
			for _, n := range s {
				if !yield(n) {
					return
				}
			}
		}
	}
}

// score returns 2 if the first number is smaller, 1 if both are equal, and 0 otherwise.
func score(n, m int) int {
	return 1 + cmp.Compare(m, n)
}

// beats returns the beats of two samples.
func (s sample) beats(other sample) int {
	sum := 0
	for n := range pool(s) {
		for m := range pool(other) {
			sum += score(n, m)
		}
	}
	return sum
}

// ranks returns the ranks of the elements.
func (s sample) ranks() []int {
	var ranks []int
	for n := range pool(s) {
		ranks = append(ranks, s.beats(sample{n})+1)
	}
	return ranks
}
