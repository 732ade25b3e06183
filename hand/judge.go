package hand

import "pianola/api"

// verdict returns what a chance says of a known roll.
func verdict(chance, level api.Ratio) int {
	if compare(chance, level) <= 0 {
		return Other
	}
	return Open
}

// judge returns what is said of each known roll, and the index of the first one with the greatest chance.
func judge(rolls [][]int, roll sample, level api.Ratio) (verdicts []int, closest int) {
	greatest := api.Ratio{Num: 0, Den: 1}
	for i, known := range rolls {
		chance := sample(known).chance(roll)
		verdicts = append(verdicts, verdict(chance, level))
		if compare(chance, greatest) > 0 {
			closest, greatest = i, chance
		}
	}
	return verdicts, closest
}

// ends returns the least and the greatest delays of spans.
func ends(spans []api.Span) (least, greatest sample) {
	for _, s := range spans {
		least = append(least, s.Lo)
		greatest = append(greatest, s.Hi)
	}
	return least, greatest
}

// within returns the span of the beats in any truth: they become more if the elements of a become smaller, or those of b greater.
func within(a, b []api.Span) api.Span {
	leastA, greatestA := ends(a)
	leastB, greatestB := ends(b)
	return api.Span{Lo: greatestA.beats(leastB), Hi: leastA.beats(greatestB)}
}
