package align

import "iter"

// rolls are two rolls without an error.
type rolls struct {
	first  Roll
	second Roll
}

// start returns the pair with which a walk begins.
func (r rolls) start() Pair {
	return Pair{First: 0, Second: 0}
}

// end returns the pair with which a walk ends.
func (r rolls) end() Pair {
	return Pair{First: len(r.first) - 1, Second: len(r.second) - 1}
}

// has reports whether a pair is one of the rolls.
func (r rolls) has(p Pair) bool {
	end := r.end()
	return isWithin(p.First, 0, end.First) && isWithin(p.Second, 0, end.Second)
}

// pairs returns all pairs of the rolls; no move leads to one of them from a later one.
func (r rolls) pairs() []Pair {
	var all []Pair
	for i := range r.first {
		for k := range r.second {
			all = append(all, Pair{First: i, Second: k})
		}
	}
	return all
}

// moves yields the pairs to which moves lead from a pair, in the order in which walks are compared.
func (r rolls) moves(from Pair) iter.Seq[Pair] {
	i, k := from.First, from.Second
	return func(yield func(Pair) bool) {
		for _, to := range []Pair{{First: i + 1, Second: k + 1}, {First: i + 1, Second: k}, {First: i, Second: k + 1}} {
			if r.has(to) && !yield(to) {
				return
			}
		}
	}
}

// isMove reports whether a move leads from one pair to another one.
func (r rolls) isMove(from, to Pair) bool {
	for next := range r.moves(from) {
		if next == to {
			return true
		}
	}
	return false
}

// distance returns the distance of a pair.
func (r rolls) distance(p Pair) int {
	return r.first[p.First].distance(r.second[p.Second])
}

// distance returns the distance of two events.
func (e Event) distance(other Event) int {
	if e.Key != other.Key {
		return MaxFar
	}
	return apart(e.Loud, other.Loud) + apart(e.Gap, other.Gap)
}

// apart returns the absolute difference of two numbers.
func apart(m, n int) int {
	return max(m-n, n-m)
}
