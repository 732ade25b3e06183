package vault

// number is a number of the field.
type number int

// plus returns the sum of two numbers.
func (n number) plus(m number) number {
	return (n + m) % Prime
}

// minus returns the number whose sum with the second one is the first one.
func (n number) minus(m number) number {
	return (n - m + Prime) % Prime
}

// times returns the product of two numbers.
func (n number) times(m number) number {
	return n * m % Prime
}

// over returns the number whose product with the second one, which is not 0, is the first one.
func (n number) over(m number) number {
	return n.times(m.inverse())
}

// inverse returns the inverse of a number that is not 0: since Prime is a prime, the power with the exponent Prime - 1 is 1.
func (n number) inverse() number {
	inverse := number(1)
	for left := Prime - 2; left > 0; left /= 2 {
		if left%2 == 1 {
			inverse = inverse.times(n)
		}
		n = n.times(n)
	}
	return inverse
}

// combine returns what becomes of the elements at each place of two lists of the same size.
func combine[T any](a, b []T, with func(T, T) T) []T {
	list := make([]T, len(a))
	for i := range list {
		list[i] = with(a[i], b[i])
	}
	return list
}
