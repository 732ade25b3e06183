package torn

import (
	"iter"
	"math/bits"
)

// set is a set of numbers from 0 on: a bit for each of them.
type set uint32

// has reports whether a number is in a set.
func (s set) has(n int) bool {
	return s>>n&1 == 1
}

// with returns a set with one number more.
func (s set) with(n int) set {
	return s | 1<<n
}

// size returns how many numbers a set has.
func (s set) size() int {
	return bits.OnesCount32(uint32(s))
}

// elements yields the numbers of a set, in ascending order.
func (s set) elements() iter.Seq[int] {
	return func(yield func(int) bool) {
		for rest := s; rest != 0; rest &= rest - 1 {
			if !yield(bits.TrailingZeros32(uint32(rest))) {
				return
			}
		}
	}
}

// setOf returns the set of some numbers.
func setOf(numbers []int) set {
	var s set
	for _, n := range numbers {
		s = s.with(n)
	}
	return s
}

// upTo returns the set of the first numbers, so many of them.
func upTo(size int) set {
	return 1<<size - 1
}

// sets yields all sets that have so many of the first numbers.
func sets(numbers, size int) iter.Seq[set] {
	return func(yield func(set) bool) {
		for s := range upTo(numbers) + 1 {
			if s.size() == size && !yield(s) {
				return
			}
		}
	}
}
