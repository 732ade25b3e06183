package vault

import (
	"iter"
	"slices"
)

// maxWrong is how many wrong shares are looked for at most.
const maxWrong = 3

// search returns the polynomial on which all shares lie but at most so many, and whether there is one.
func search(need, most int, shares []Share) (polynomial, bool) {
next:
	for chosen := range choices(shares, len(shares)-most) {
		right := through(chosen[:need]).polynomial()
		for _, s := range chosen[need:] {
			if !s.liesOn(right) {
				continue next
			}
		}
		return right, true
	}
	return nil, false
}

// choices yields all choices of so many shares, each in their order.
func choices(shares []Share, size int) iter.Seq[[]Share] {
	return func(yield func([]Share) bool) {
		choose(nil, shares, size, yield)
	}
}

// choose yields what was chosen together with each choice of so many of the rest, and reports whether more are wanted.
func choose(chosen, rest []Share, size int, yield func([]Share) bool) bool {
	if size == 0 {
		return yield(chosen)
	}
	for i := range len(rest) - size + 1 {
		more := append(slices.Clone(chosen), rest[i])
		if !choose(more, rest[i+1:], size-1, yield) {
			return false
		}
	}
	return true
}
