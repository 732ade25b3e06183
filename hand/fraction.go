package hand

import (
	"cmp"

	"pianola/api"
)

// distance returns by how much two numbers differ.
func distance(n, m int) int {
	return max(n-m, m-n)
}

// lowest returns the fraction of two numbers above 0 in lowest terms.
func lowest(num, den int) api.Ratio {
	common, rest := num, den
	for rest != 0 {
		common, rest = rest, common%rest
	}
	return api.Ratio{Num: num / common, Den: den / common}
}

// compare returns -1 if the first fraction is less, 0 if both are equal, and 1 otherwise.
func compare(a, b api.Ratio) int {
	return cmp.Compare(a.Num*b.Den, b.Num*a.Den)
}
