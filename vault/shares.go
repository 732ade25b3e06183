package vault

import (
	"slices"

	"pianola/api"
)

// shareOf returns the share of a keeper.
func shareOf(keeper int, value number) Share {
	return Share{Keeper: keeper, Value: int(value)}
}

// place returns the number at which the polynomial of a share has its value.
func (s Share) place() number {
	return number(s.Keeper)
}

// value returns the value of a share as a number of the field.
func (s Share) value() number {
	return number(s.Value)
}

// liesOn reports whether a share lies on a polynomial.
func (s Share) liesOn(c curve) bool {
	return c.at(s.place()) == s.value()
}

// haveSameKeeper reports whether two shares are those of one keeper.
func haveSameKeeper(a, b Share) bool {
	return a.Keeper == b.Keeper
}

// deal returns the shares of so many keepers.
func deal(c curve, keepers int) []Share {
	var shares []Share
	for keeper := 1; keeper <= keepers; keeper++ {
		shares = append(shares, shareOf(keeper, c.at(number(keeper))))
	}
	return shares
}

// agree reports whether shares agree: the first ones of them decide on what the others have to lie.
func agree(need int, shares []Share) bool {
	return len(keepersOff(through(shares[:min(need, len(shares))]), shares)) == 0
}

// keepersOff returns the keepers whose shares do not lie on a polynomial, in ascending order.
func keepersOff(c curve, shares []Share) []int {
	var keepers []int
	for _, s := range shares {
		if !s.liesOn(c) {
			keepers = append(keepers, s.Keeper)
		}
	}
	slices.Sort(keepers)
	return keepers
}

// possible returns the secrets of all polynomials on which shares lie, in ascending order.
func possible(need int, shares []Share) []int {
	var secrets []int
	switch {
	case len(shares) < need: // any secret is like one share more, which these agree with
		for secret := range Prime {
			secrets = append(secrets, secret)
		}
	case agree(need, shares):
		secrets = append(secrets, int(secretOf(through(shares[:need]))))
	}
	return secrets
}

// count returns how many polynomials with a secret there are on which shares lie, at most api.Never.
func count(need int, shares []Share, secret number) int {
	switch {
	case len(shares) < need: // with the secret as one share more, any values of those that are still lacking
		return min(power(Prime, need-len(shares)-1), api.Never)
	case agree(need, shares) && secretOf(through(shares[:need])) == secret:
		return 1
	}
	return 0
}

// power returns a power. Those of Prime are below 2^63 for all exponents that are asked for: MaxNeed - 1 is the greatest.
func power(base, exponent int) int {
	product := 1
	for range exponent {
		product *= base
	}
	return product
}
