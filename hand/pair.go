package hand

import "pianola/api"

// signedRanks returns the ranks of all pairs whose elements differ, those negative of which the second element is smaller.
func (s sample) signedRanks(other sample) []int {
	var leads, sizes sample
	for i, n := range s {
		if lead := other[i] - n; lead != 0 {
			leads = append(leads, lead)
			sizes = append(sizes, distance(lead, 0))
		}
	}
	ranks := sizes.ranks()
	for i, lead := range leads {
		if lead < 0 {
			ranks[i] = -ranks[i]
		}
	}
	return ranks
}

// paired returns the signed sum of two samples that are equally long, and their paired chance.
func (s sample) paired(other sample) (sum int, chance api.Ratio) {
	ranks := s.signedRanks(other)
	for _, rank := range ranks {
		sum += rank
	}
	// A pair whose elements are equal would double all numbers of swaps, so that the chance is the same without it.
	swaps := count(pool(ranks), 0, func(sum, rank int) (int, bool) {
		return sum + rank, true
	}, func(sum, rank int) (int, bool) {
		return sum - rank, true
	})
	return sum, ways(swaps).chance(0, sum)
}
