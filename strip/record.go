package strip

import "slices"

// mistakes returns how many answers are mistakes if a tube is blocked.
func (r Record) mistakes(tube int) int {
	n := 0
	for _, test := range r.Tests {
		if slices.Contains(test.Strip, tube) != test.Answer {
			n++
		}
	}
	return n
}

// possible returns the tubes that are possible.
func (r Record) possible() []int {
	var tubes []int
	for tube := range r.N {
		if r.mistakes(tube) <= r.Lies {
			tubes = append(tubes, tube)
		}
	}
	return tubes
}

// tally returns the tally of all tubes that are possible.
func (r Record) tally() tally {
	return r.tallyOf(r.possible())
}

// tallyOf returns the tally of those of some tubes that are possible.
func (r Record) tallyOf(tubes []int) tally {
	var t tally
	for _, tube := range tubes {
		if further := r.Lies - r.mistakes(tube); further >= 0 {
			t[further]++
		}
	}
	return t
}

// choose returns possible tubes with a part of the record's tally as theirs: the first ones.
func (r Record) choose(part tally) []int {
	var strip []int
	for _, tube := range r.possible() {
		further := r.Lies - r.mistakes(tube)
		if part[further] > 0 {
			part[further]--
			strip = append(strip, tube)
		}
	}
	return strip
}
