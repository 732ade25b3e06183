package vault_test

import (
	"math/big"
	"math/rand"
	"slices"

	"pianola/api"
	"pianola/vault"
)

// The reference follows the chapter's definitions word by word: it tries all polynomials with few coefficients, and solves equations for those with many; it knows nothing of how the package finds polynomials.

// list returns a list of numbers.
func list(l ...int) []int { return l }

// of returns shares: keeper, value, keeper, value, and so on.
func of(l ...int) []vault.Share {
	var shares []vault.Share
	for i := 0; i+1 < len(l); i += 2 {
		shares = append(shares, vault.Share{Keeper: l[i], Value: l[i+1]})
	}
	return shares
}

// allNumbers returns the numbers of the field.
func allNumbers() []int {
	var l []int
	for n := range 251 {
		l = append(l, n)
	}
	return l
}

// valueOf returns the value of a polynomial, by numbers of any size.
func valueOf(coefficients []int, x int) int {
	sum := new(big.Int)
	for i, c := range coefficients {
		power := new(big.Int).Exp(big.NewInt(int64(x)), big.NewInt(int64(i)), nil)
		sum.Add(sum, power.Mul(power, big.NewInt(int64(c))))
	}
	return int(sum.Mod(sum, big.NewInt(251)).Int64())
}

// inverseOf returns the inverse of a number, found by trying all of them.
func inverseOf(n int) int {
	for m := range 251 {
		if n*m%251 == 1 {
			return m
		}
	}
	return -1
}

// dealt returns the shares of some keepers.
func dealt(coefficients []int, keepers ...int) []vault.Share {
	var shares []vault.Share
	for _, k := range keepers {
		shares = append(shares, vault.Share{Keeper: k, Value: valueOf(coefficients, k)})
	}
	return shares
}

// lie reports whether all shares lie on a polynomial with three coefficients.
func lie(shares []vault.Share, a, b, c int) bool {
	for _, s := range shares {
		if (a+b*s.Keeper+c*s.Keeper*s.Keeper)%251 != s.Value {
			return false
		}
	}
	return true
}

// found is what shares leave possible: how many polynomials there are with each secret, and one of all of them.
type found struct {
	counts       [251]int
	coefficients []int
}

// tryAll returns what shares leave possible. It tries all polynomials with at most three coefficients.
func tryAll(need int, shares []vault.Share) found {
	var f found
	sizes := [3]int{1, 1, 1}
	for i := range need {
		sizes[i] = 251
	}
	for a := range sizes[0] {
		for b := range sizes[1] {
			for c := range sizes[2] {
				if lie(shares, a, b, c) {
					f.counts[a]++
					f.coefficients = list(a, b, c)[:need]
				}
			}
		}
	}
	return f
}

// rowsOf returns an equation for each share: the powers of its keeper, and its value.
func rowsOf(need int, shares []vault.Share) [][]int {
	var rows [][]int
	for _, s := range shares {
		row := list(1)
		for range need - 1 {
			row = append(row, row[len(row)-1]*s.Keeper%251)
		}
		rows = append(rows, append(row, s.Value))
	}
	return rows
}

// reduce makes a column of all rows 0 by multiples of the row that leads, in which it becomes 1.
func reduce(rows [][]int, lead, column int) {
	inverse := inverseOf(rows[lead][column])
	for j := range rows[lead] {
		rows[lead][j] = rows[lead][j] * inverse % 251
	}
	for i, row := range rows {
		factor := row[column]
		for j := range row {
			if i != lead {
				row[j] = (row[j] + (251-factor)*rows[lead][j]) % 251
			}
		}
	}
}

// solve returns a polynomial on which all shares lie, how many of its coefficients can be chosen freely, and whether there is one.
func solve(need int, shares []vault.Share) (coefficients []int, free int, ok bool) {
	rows := rowsOf(need, shares)
	coefficients = make([]int, need)
	var leads []int
	for column := range need {
		lead := len(leads)
		at := lead
		for at < len(rows) && rows[at][column] == 0 {
			at++
		}
		if at == len(rows) {
			continue
		}
		rows[lead], rows[at] = rows[at], rows[lead]
		reduce(rows, lead, column)
		leads = append(leads, column)
	}
	for _, row := range rows[len(leads):] {
		if row[need] != 0 {
			return nil, 0, false
		}
	}
	for i, column := range leads {
		coefficients[column] = rows[i][need]
	}
	return coefficients, need - len(leads), true
}

// countOf returns how many polynomials with a secret there are on which shares lie: the secret is the value at 0.
func countOf(need int, shares []vault.Share, secret int) int {
	_, free, ok := solve(need, append(slices.Clone(shares), vault.Share{Keeper: 0, Value: secret}))
	if !ok {
		return 0
	}
	never := big.NewInt(api.Never)
	product := new(big.Int).Exp(big.NewInt(251), big.NewInt(int64(free)), nil)
	if product.Cmp(never) > 0 {
		return api.Never
	}
	return int(product.Int64())
}

// possibleOf returns all secrets that shares leave possible.
func possibleOf(need int, shares []vault.Share) []int {
	var l []int
	for secret := range 251 {
		if countOf(need, shares, secret) > 0 {
			l = append(l, secret)
		}
	}
	return l
}

// without returns all lists that are left without at most so many shares.
func without(shares []vault.Share, most int) [][]vault.Share {
	if len(shares) == 0 {
		return [][]vault.Share{nil}
	}
	var all [][]vault.Share
	for _, rest := range without(shares[1:], most) {
		all = append(all, append(shares[:1:1], rest...))
	}
	if most > 0 {
		all = append(all, without(shares[1:], most-1)...)
	}
	return all
}

// wrongOf returns the keepers whose shares do not lie on a polynomial on which all shares but at most so many do, for each such polynomial.
func wrongOf(need, most int, shares []vault.Share) [][]int {
	var all [][]int
	for _, rest := range without(shares, most) {
		coefficients, _, ok := solve(need, rest)
		if !ok {
			continue
		}
		keepers := list()
		for _, s := range shares {
			if valueOf(coefficients, s.Keeper) != s.Value {
				keepers = append(keepers, s.Keeper)
			}
		}
		slices.Sort(keepers)
		if !slices.ContainsFunc(all, func(l []int) bool { return slices.Equal(l, keepers) }) {
			all = append(all, keepers)
		}
	}
	return all
}

// newRandom returns the numbers that all runs of the tests share.
func newRandom() *rand.Rand { return rand.New(rand.NewSource(90)) }

// between returns a number from a least to a greatest one.
func between(r *rand.Rand, least, greatest int) int {
	return least + r.Intn(greatest-least+1)
}

// anyCoefficients returns so many coefficients, some of which are extreme.
func anyCoefficients(r *rand.Rand, n int) []int {
	var l []int
	for range n {
		switch r.Intn(5) {
		case 0:
			l = append(l, 0)
		case 1:
			l = append(l, 250)
		default:
			l = append(l, r.Intn(251))
		}
	}
	return l
}

// anyKeepers returns so many keepers, in any order.
func anyKeepers(r *rand.Rand, n int) []int {
	var l []int
	for _, k := range r.Perm(vault.MaxKeepers)[:n] {
		l = append(l, k+1)
	}
	return l
}

// change changes so many shares and returns their keepers in ascending order.
func change(r *rand.Rand, shares []vault.Share, n int) []int {
	var keepers []int
	for _, i := range r.Perm(len(shares))[:n] {
		shares[i].Value = (shares[i].Value + between(r, 1, 250)) % 251
		keepers = append(keepers, shares[i].Keeper)
	}
	slices.Sort(keepers)
	return keepers
}

// anyShares returns at most so many shares; some were changed.
func anyShares(r *rand.Rand, need, most int) []vault.Share {
	shares := dealt(anyCoefficients(r, need), anyKeepers(r, r.Intn(most+1))...)
	if r.Intn(2) == 0 {
		change(r, shares, r.Intn(min(len(shares), 3)+1))
	}
	return shares
}

// shuffled returns shares in another order.
func shuffled(r *rand.Rand, shares []vault.Share) []vault.Share {
	var l []vault.Share
	for _, i := range r.Perm(len(shares)) {
		l = append(l, shares[i])
	}
	return l
}
