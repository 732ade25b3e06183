package level_test

import (
	"math/big"
	"math/rand"
	"slices"

	"pianola/api"
	"pianola/level"
)

// The reference follows the chapter's definitions word by word, with fractions of any size: it tries all gains at which the least error for a gain can turn, all proofs, and all divisions.

// whole returns a number as a fraction.
func whole(n int) *big.Rat { return new(big.Rat).SetInt64(int64(n)) }

// rat returns a fraction with a Den above 0.
func rat(r api.Ratio) *big.Rat { return big.NewRat(int64(r.Num), int64(r.Den)) }

// sum returns the sum of fractions.
func sum(l ...*big.Rat) *big.Rat {
	total := new(big.Rat)
	for _, x := range l {
		total.Add(total, x)
	}
	return total
}

// less returns a fraction less another one.
func less(a, b *big.Rat) *big.Rat { return new(big.Rat).Sub(a, b) }

// times returns a fraction times another one.
func times(a, b *big.Rat) *big.Rat { return new(big.Rat).Mul(a, b) }

// half returns half of a fraction.
func half(a *big.Rat) *big.Rat { return times(a, big.NewRat(1, 2)) }

// most returns the greatest one of some fractions.
func most(l ...*big.Rat) *big.Rat {
	return slices.MaxFunc(l, func(a, b *big.Rat) int { return a.Cmp(b) })
}

// errorWith returns the error of a line.
func errorWith(l []level.Code, gain, offset *big.Rat) *big.Rat {
	worst := new(big.Rat)
	for _, c := range l {
		loud := sum(times(gain, whole(c.Set)), offset)
		toLo, toHi := less(loud, whole(c.Want.Lo)), less(loud, whole(c.Want.Hi))
		worst = most(worst, toLo.Abs(toLo), toHi.Abs(toHi))
	}
	return worst
}

// errorWithGain returns the least error that lines with a gain have: half of the greatest difference between what the offset would have to be for two ends.
func errorWithGain(l []level.Code, gain *big.Rat) *big.Rat {
	var ends []*big.Rat
	for _, c := range l {
		loud := times(gain, whole(c.Set))
		ends = append(ends, less(whole(c.Want.Lo), loud), less(whole(c.Want.Hi), loud))
	}
	least := slices.MinFunc(ends, func(a, b *big.Rat) int { return a.Cmp(b) })
	return half(less(most(ends...), least))
}

// bestOf returns the best error of a coding with few codes. The error for a gain is the greatest one of straight functions of the gain, one for each two ends; its least one is where two of them meet, or anywhere.
func bestOf(l []level.Code) *big.Rat {
	type straight struct{ at0, slope int }
	var all []straight
	for _, a := range l {
		for _, b := range l {
			all = append(all, straight{a.Want.Hi - b.Want.Lo, b.Set - a.Set})
		}
	}
	best := errorWithGain(l, new(big.Rat))
	for _, f := range all {
		for _, g := range all {
			if f.slope > g.slope {
				meet := big.NewRat(int64(g.at0-f.at0), int64(f.slope-g.slope))
				if e := errorWithGain(l, meet); e.Cmp(best) < 0 {
					best = e
				}
			}
		}
	}
	return best
}

// provedBy returns what one code or three codes prove.
func provedBy(l []level.Code, codes ...int) *big.Rat {
	if len(codes) == 1 {
		c := l[codes[0]]
		return half(whole(c.Want.Hi - c.Want.Lo))
	}
	i, j, k := l[codes[0]], l[codes[1]], l[codes[2]]
	p := big.NewRat(int64(j.Set-i.Set), int64(k.Set-i.Set))
	q := less(whole(1), p)
	first := less(less(whole(j.Want.Hi), times(q, whole(i.Want.Lo))), times(p, whole(k.Want.Lo)))
	second := less(sum(times(q, whole(i.Want.Hi)), times(p, whole(k.Want.Hi))), whole(j.Want.Lo))
	return half(most(first, second))
}

// proofsOf returns all lists of indices that can prove something.
func proofsOf(l []level.Code) [][]int {
	var all [][]int
	for i := range l {
		all = append(all, list(i))
		for j := range i {
			for k := range j {
				all = append(all, list(k, j, i))
			}
		}
	}
	return all
}

// mostProved returns the greatest number that one code or three codes prove.
func mostProved(l []level.Code) *big.Rat {
	best := new(big.Rat)
	for _, codes := range proofsOf(l) {
		best = most(best, provedBy(l, codes...))
	}
	return best
}

// divisionsOf returns all divisions of so many codes among players.
func divisionsOf(codes, players int) [][]int {
	if players == 1 {
		return [][]int{{0}}
	}
	var all [][]int
	for start := players - 1; start < codes; start++ {
		for _, others := range divisionsOf(start, players-1) {
			all = append(all, append(slices.Clone(others), start))
		}
	}
	return all
}

// errorOfDivision returns the error of a division.
func errorOfDivision(l []level.Code, starts []int) *big.Rat {
	worst := new(big.Rat)
	for i, start := range starts {
		end := len(l)
		if i+1 < len(starts) {
			end = starts[i+1]
		}
		worst = most(worst, mostProved(l[start:end]))
	}
	return worst
}

// list returns a list.
func list(l ...int) []int { return l }

// part returns a fraction as it is.
func part(num, den int) api.Ratio { return api.Ratio{Num: num, Den: den} }

// lineOf returns a line.
func lineOf(gain, gainDen, offset, offsetDen int) level.Line {
	return level.Line{Gain: part(gain, gainDen), Offset: part(offset, offsetDen)}
}

// code returns a code.
func code(set, lo, hi int) level.Code {
	return level.Code{Set: set, Want: api.Span{Lo: lo, Hi: hi}}
}

// codes returns codes: Set, Want.Lo, Want.Hi, and so on.
func codes(l ...int) []level.Code {
	var out []level.Code
	for i := 0; i+2 < len(l); i += 3 {
		out = append(out, code(l[i], l[i+1], l[i+2]))
	}
	return out
}

// points returns codes with the Sets 0, 1, 2 and so on, of which it is known how loud they were meant.
func points(l ...int) []level.Code {
	var out []level.Code
	for i, n := range l {
		out = append(out, code(i, n, n))
	}
	return out
}

// exampleA, exampleB and exampleC are A, B and C of the chapter's examples.
func exampleA() []level.Code { return points(10, 10, 40) }
func exampleB() []level.Code { return codes(0, 8, 12, 1, 9, 11, 2, 38, 42) }
func exampleC() []level.Code { return codes(0, 5, 5, 10, 0, 30, 20, 25, 25) }

// newRandom returns the numbers that all runs of the tests share.
func newRandom() *rand.Rand { return rand.New(rand.NewSource(60)) }

// between returns a number from a least to a greatest one.
func between(r *rand.Rand, least, greatest int) int {
	return least + r.Intn(greatest-least+1)
}

// anySets returns so many numbers in strictly ascending order.
func anySets(r *rand.Rand, n, least, greatest int) []int {
	var sets []int
	for len(sets) < n {
		sets = append(sets, between(r, least, greatest))
		slices.Sort(sets)
		sets = slices.Compact(sets)
	}
	return sets
}

// codingWithin returns a coding of which the Sets are within a distance of 0, and the Wants at most so loud and so wide.
func codingWithin(r *rand.Rand, n, far, loud, wide int) []level.Code {
	var l []level.Code
	for _, set := range anySets(r, n, -far, far) {
		lo := between(r, 0, loud)
		l = append(l, code(set, lo, min(loud, lo+r.Intn(wide+1))))
	}
	return l
}

// smallCoding returns a coding with small numbers.
func smallCoding(r *rand.Rand, n int) []level.Code {
	return codingWithin(r, n, n, 12, r.Intn(8))
}

// bentCoding returns a coding that is a line, but for a few of its codes.
func bentCoding(r *rand.Rand, n int) []level.Code {
	gain, offset := between(r, -20, 20), between(r, 400, 600)
	var l []level.Code
	for _, set := range anySets(r, n, -20, 20) {
		loud := gain*set + offset
		if r.Intn(3) == 0 {
			loud = max(0, loud+between(r, -30, 30))
		}
		l = append(l, code(set, loud, loud+r.Intn(3)))
	}
	return l
}

// wideCoding returns a coding of which any numbers are as great as they can be.
func wideCoding(r *rand.Rand, n int) []level.Code {
	return codingWithin(r, n, level.MaxSet, level.MaxLoud, r.Intn(level.MaxLoud+1))
}

// extremeCoding returns a coding with numbers that are, or nearly are, the least or the greatest ones.
func extremeCoding(r *rand.Rand, n int) []level.Code {
	var l []level.Code
	for _, set := range anySets(r, n, 0, 2*n-1) {
		if set < n {
			set -= level.MaxSet
		} else {
			set += level.MaxSet - 2*n + 1
		}
		near := list(0, 0, 1, level.MaxLoud-1, level.MaxLoud, level.MaxLoud)
		lo, hi := near[r.Intn(len(near))], near[r.Intn(len(near))]
		l = append(l, code(set, min(lo, hi), max(lo, hi)))
	}
	return l
}

// mixedCoding returns a coding of any sort.
func mixedCoding(r *rand.Rand, n int) []level.Code {
	sorts := []func(*rand.Rand, int) []level.Code{smallCoding, bentCoding, wideCoding, extremeCoding}
	return sorts[r.Intn(len(sorts))](r, n)
}
