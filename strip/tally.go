package strip

import "iter"

// tally is how many tubes are possible that allow no further mistake, one, and so on.
// It is a state without what all answers allow together, since all that is asked depends on what is left of it: a tube with one mistake of two is like one without a mistake of one.
type tally [MaxLies + 1]int

// tallyOf returns the tally of a state.
func tallyOf(state []int) tally {
	var t tally
	for mistakes, tubes := range state {
		t[len(state)-1-mistakes] = tubes
	}
	return t
}

// state returns the state of a tally, if so many answers can be mistakes.
func (t tally) state(lies int) []int {
	state := make([]int, lies+1)
	for mistakes := range state {
		state[mistakes] = t[lies-mistakes]
	}
	return state
}

// tubes returns how many tubes there are.
func (t tally) tubes() int {
	sum := 0
	for _, tubes := range t {
		sum += tubes
	}
	return sum
}

// weight returns the weight for so many further strips.
func (t tally) weight(ahead int) int {
	sum := 0
	for further, tubes := range t {
		sum += tubes * waysToErr(ahead, further)
	}
	return sum
}

// waysToErr returns how many ways there are to choose at most so many of some answers.
func waysToErr(answers, most int) int {
	binomial, sum := 1, 1
	for k := 1; k <= most; k++ {
		binomial = binomial * (answers - k + 1) / k // 0 as soon as k is above answers, and from there on
		sum += binomial
	}
	return sum
}

// fits reports whether the weight does not exclude that so many further strips suffice.
func (t tally) fits(strips int) bool {
	return t.weight(strips) <= 1<<strips
}

// bound returns the smallest number of further strips that the weight does not exclude. It is 0 just if at most one tube is possible, since the weight for no strips is the number of tubes.
func (t tally) bound() int {
	n := 0
	for !t.fits(n) {
		n++
	}
	return n
}

// without returns the tally of all tubes but those of a part.
func (t tally) without(part tally) tally {
	for further, tubes := range part {
		t[further] -= tubes
	}
	return t
}

// after returns the tally after an answer that is right just for the tubes of a part.
func (t tally) after(part tally) tally {
	next := part
	for further, tubes := range t.without(part) {
		if further > 0 {
			next[further-1] += tubes
		}
	}
	return next
}

// splits yields a part for each way to split the tubes in two: the part that has fewer tubes, but not none (both if they have as many). The rest says the same with the opposite answers.
func (t tally) splits() iter.Seq[tally] {
	return func(yield func(tally) bool) {
		for i := range t[0] + 1 {
			for j := range t[1] + 1 {
				for k := range t[2] + 1 {
					part := tally{i, j, k}
					if part != (tally{}) && 2*part.tubes() <= t.tubes() && !yield(part) {
						return
					}
				}
			}
		}
	}
}
