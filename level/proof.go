package level

import "iter"

// proof is the indices of three codes in ascending order, or three times the index of one code.
type proof [3]int

// oneCode returns the proof of one code.
func oneCode(index int) proof {
	return proof{index, index, index}
}

// proofOf returns the proof that a list of one or three indices is.
func proofOf(codes []int) proof {
	if len(codes) == 1 {
		return oneCode(codes[0])
	}
	return proof{codes[0], codes[1], codes[2]}
}

// codes returns the list of indices that a proof is.
func (p proof) codes() []int {
	if p == oneCode(p[0]) {
		return []int{p[0]}
	}
	return []int{p[0], p[1], p[2]}
}

// proofs yields all proofs that a number of codes has.
func proofs(codes int) iter.Seq[proof] {
	return func(yield func(proof) bool) {
		for i := range codes {
			if !yield(oneCode(i)) {
				return
			}
			for j := i + 1; j < codes; j++ {
				for k := j + 1; k < codes; k++ {
					if !yield(proof{i, j, k}) {
						return
					}
				}
			}
		}
	}
}

// greatest returns the first greatest one of several things, or a zero value if there are none.
func greatest[T any](things iter.Seq[T], less func(a, b T) bool) T {
	var found T
	some := false
	for thing := range things {
		if !some || less(found, thing) {
			found, some = thing, true
		}
	}
	return found
}
