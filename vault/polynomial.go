package vault

// curve is a polynomial, whatever it is given by.
type curve interface {
	at(x number) number
}

// secretOf returns the secret of a polynomial.
func secretOf(c curve) number {
	return c.at(0)
}

// polynomial is a curve that is given by its coefficients.
type polynomial []number

// polynomialOf returns the polynomial with coefficients.
func polynomialOf(coefficients []int) polynomial {
	p := make(polynomial, len(coefficients))
	for i, c := range coefficients {
		p[i] = number(c)
	}
	return p
}

// coefficients returns the coefficients of a polynomial.
func (p polynomial) coefficients() []int {
	list := make([]int, len(p))
	for i, c := range p {
		list[i] = int(c)
	}
	return list
}

// at returns the value at a number.
func (p polynomial) at(x number) number {
	sum, power := number(0), number(1)
	for _, c := range p {
		sum = sum.plus(c.times(power))
		power = power.times(x)
	}
	return sum
}

// scaled returns a polynomial whose values are so many times those of this one.
func (p polynomial) scaled(factor number) polynomial {
	scaled := make(polynomial, len(p))
	for i, c := range p {
		scaled[i] = c.times(factor)
	}
	return scaled
}

// withZero returns the product of a polynomial and of the one that is 0 just at a number; of as many coefficients, so that there has to be room for one more.
func (p polynomial) withZero(x number) polynomial {
	raised := make(polynomial, len(p))
	copy(raised[1:], p)
	return combine(raised, p.scaled(x), number.minus)
}

// through is a curve that is given by shares which lie on it: the one that has no more coefficients than there are shares.
type through []Share

// at returns the value at a number: each share adds its own value where its keeper is, and nothing where the others are.
func (t through) at(x number) number {
	sum := number(0)
	for i, own := range t {
		above, below := own.value(), number(1)
		for j, other := range t {
			if j != i {
				above = above.times(x.minus(other.place()))
				below = below.times(own.place().minus(other.place()))
			}
		}
		sum = sum.plus(above.over(below))
	}
	return sum
}

// polynomial returns the polynomial with as many coefficients as there are shares. Share after share it adds a part that is 0 at all keepers before, so that these shares stay on it.
func (t through) polynomial() polynomial {
	sum, part := make(polynomial, len(t)), make(polynomial, len(t))
	part[0] = 1
	for _, s := range t {
		lack := s.value().minus(sum.at(s.place()))
		sum = combine(sum, part.scaled(lack.over(part.at(s.place()))), number.plus)
		part = part.withZero(s.place()) // what does not fit after the last share is not needed
	}
	return sum
}
