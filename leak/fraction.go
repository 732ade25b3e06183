package leak

import "pianola/api"

// fraction is a fraction in lowest terms, so that two of them are equal if their fields are.
type fraction api.Ratio

// divisor returns the greatest number that divides two, which are not below 0.
func divisor(n, m int) int {
	for m != 0 {
		n, m = m, n%m
	}
	return n
}

// over returns the fraction of two numbers, of which the second one is above 0 and the first one not below.
func over(num, den int) fraction {
	common := divisor(num, den)
	return fraction{Num: num / common, Den: den / common}
}

// less reports whether a fraction is less than another one.
func (f fraction) less(g fraction) bool {
	return f.Num*g.Den < g.Num*f.Den
}

// is reports whether two fractions are equal.
func (f fraction) is(g fraction) bool {
	return f == g
}

// best returns one of several things than which none is better.
func best[T any](things []T, better func(a, b T) bool) T {
	var top T
	for i, thing := range things {
		if i == 0 || better(thing, top) {
			top = thing
		}
	}
	return top
}
