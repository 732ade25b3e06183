package hand_test

import (
	"math/big"
	"math/bits"
	"math/rand"
	"slices"

	"pianola/api"
	"pianola/hand"
)

// The reference follows the chapter's definitions word by word: it tries all choices and all swaps of small samples. For large ones it counts choices value by value, and knows nothing of ranks.

// list returns a list of numbers.
func list(l ...int) []int { return l }

// part returns a fraction.
func part(num, den int) api.Ratio { return api.Ratio{Num: num, Den: den} }

// spans returns spans: least, greatest, least, greatest, and so on.
func spans(l ...int) []api.Span {
	var out []api.Span
	for i := 0; i+1 < len(l); i += 2 {
		out = append(out, api.Span{Lo: l[i], Hi: l[i+1]})
	}
	return out
}

// ranksOf returns the ranks of the elements.
func ranksOf(l []int) []int {
	var ranks []int
	for _, n := range l {
		smaller, equal := 0, 0
		for _, m := range l {
			switch {
			case m < n:
				smaller++
			case m == n:
				equal++
			}
		}
		ranks = append(ranks, 2*smaller+equal+1)
	}
	return ranks
}

// beatsOf returns the beats of two samples.
func beatsOf(a, b []int) int {
	sum := 0
	for _, n := range a {
		for _, m := range b {
			switch {
			case n < m:
				sum += 2
			case n == m:
				sum++
			}
		}
	}
	return sum
}

// divided returns the elements whose bits are set, and the others.
func divided(pool []int, set int) (first, second []int) {
	for i, n := range pool {
		if set>>i&1 == 1 {
			first = append(first, n)
		} else {
			second = append(second, n)
		}
	}
	return first, second
}

// allChoices returns the samples of all choices.
func allChoices(a, b []int) [][2][]int {
	pool := slices.Concat(a, b)
	var all [][2][]int
	for set := range 1 << len(pool) {
		if bits.OnesCount(uint(set)) == len(a) {
			first, second := divided(pool, set)
			all = append(all, [2][]int{first, second})
		}
	}
	return all
}

// spread is how many choices have which beats.
type spread [2*hand.MaxNotes*hand.MaxNotes + 1]int

// tryAll returns the spread of two samples. It tries all choices.
func tryAll(a, b []int) spread {
	var s spread
	for _, c := range allChoices(a, b) {
		s[beatsOf(c[0], c[1])]++
	}
	return s
}

// waysToTake returns how many ways there are to take so many of some elements.
func waysToTake(k, n int) int {
	return int(new(big.Int).Binomial(int64(n), int64(k)).Int64())
}

// byValue returns the spread of two samples of whatever size: for each value in ascending order, all numbers of elements of this value that the first sample can have.
func byValue(a, b []int) spread {
	pool := slices.Sorted(slices.Values(slices.Concat(a, b)))
	table := make([]spread, len(a)+1) // by the number of elements of the first sample
	table[0][0] = 1
	for at := 0; at < len(pool); {
		next, same := make([]spread, len(a)+1), 1
		for at+same < len(pool) && pool[at+same] == pool[at] {
			same++
		}
		for before := range table {
			for k := 0; k <= same && before+k <= len(a); k++ {
				if at-before+same-k > len(b) {
					continue
				}
				more := 2*before*(same-k) + k*(same-k)
				for beats, n := range table[before] {
					if n > 0 {
						next[before+k][beats+more] += n * waysToTake(k, same)
					}
				}
			}
		}
		table, at = next, at+same
	}
	return table[len(a)]
}

// sum returns how many choices have beats from a least to a greatest number.
func (s spread) sum(least, greatest int) int {
	sum := 0
	for beats, n := range s {
		if least <= beats && beats <= greatest {
			sum += n
		}
	}
	return sum
}

// all returns how many choices there are.
func (s spread) all() int { return s.sum(0, len(s)) }

// ratioOf returns a fraction in lowest terms, by numbers of any size.
func ratioOf(num, den int) api.Ratio {
	r := big.NewRat(int64(num), int64(den))
	return part(int(r.Num().Int64()), int(r.Denom().Int64()))
}

// chanceOf returns the chance of two samples with a spread.
func (s spread) chanceOf(a, b []int) api.Ratio {
	middle := len(a) * len(b)
	far := beatsOf(a, b) - middle
	if far < 0 {
		far = -far
	}
	return ratioOf(s.all()-s.sum(middle-far+1, middle+far-1), s.all())
}

// signedSumOf returns the signed sum of pairs.
func signedSumOf(a, b []int) int {
	var sizes []int
	for i := range a {
		switch {
		case a[i] < b[i]:
			sizes = append(sizes, b[i]-a[i])
		case a[i] > b[i]:
			sizes = append(sizes, a[i]-b[i])
		}
	}
	ranks, sum := ranksOf(sizes), 0
	for i := range a {
		switch {
		case a[i] < b[i]:
			sum += ranks[0]
			ranks = ranks[1:]
		case a[i] > b[i]:
			sum -= ranks[0]
			ranks = ranks[1:]
		}
	}
	return sum
}

// swapped returns samples in which the elements whose bits are set have changed their places.
func swapped(a, b []int, set int) (first, second []int) {
	first, second = slices.Clone(a), slices.Clone(b)
	for i := range a {
		if set>>i&1 == 1 {
			first[i], second[i] = b[i], a[i]
		}
	}
	return first, second
}

// pairedOf returns the paired chance of two samples. It tries all swaps.
func pairedOf(a, b []int) api.Ratio {
	own := signedSumOf(a, b)
	far := 0
	for set := range 1 << len(a) {
		if sum := signedSumOf(swapped(a, b, set)); max(sum, -sum) >= max(own, -own) {
			far++
		}
	}
	return ratioOf(far, 1<<len(a))
}

// compared compares two fractions by numbers of any size.
func compared(a, b api.Ratio) int {
	return big.NewRat(int64(a.Num), int64(a.Den)).Cmp(big.NewRat(int64(b.Num), int64(b.Den)))
}

// truths returns all lists with an element of each span.
func truths(l []api.Span) [][]int {
	if len(l) == 0 {
		return [][]int{nil}
	}
	var all [][]int
	for _, rest := range truths(l[1:]) {
		for n := l[0].Lo; n <= l[0].Hi; n++ {
			all = append(all, append(list(n), rest...))
		}
	}
	return all
}

// newRandom returns the numbers that all runs of the tests share.
func newRandom() *rand.Rand { return rand.New(rand.NewSource(100)) }

// between returns a number from a least to a greatest one.
func between(r *rand.Rand, least, greatest int) int {
	return least + r.Intn(greatest-least+1)
}

// anySample returns so many delays: of few values, so that many are equal, or of many.
func anySample(r *rand.Rand, n int) []int {
	reach := []int{0, 1, 2, 5, 20, hand.MaxDelay}[r.Intn(6)]
	var l []int
	for range n {
		l = append(l, between(r, -reach, reach))
	}
	return l
}

// anySpans returns so many spans between two bounds.
func anySpans(r *rand.Rand, n, least, greatest int) []api.Span {
	var l []api.Span
	for range n {
		lo := between(r, least, greatest)
		l = append(l, api.Span{Lo: lo, Hi: between(r, lo, greatest)})
	}
	return l
}

// shuffled returns a list in another order.
func shuffled(r *rand.Rand, l []int) []int {
	l = slices.Clone(l)
	r.Shuffle(len(l), func(i, j int) { l[i], l[j] = l[j], l[i] })
	return l
}

// mapped returns what becomes of each element.
func mapped(l []int, f func(int) int) []int {
	var out []int
	for _, n := range l {
		out = append(out, f(n))
	}
	return out
}
