package align

import "slices"

// canBegin reports whether a barrier can begin with a pair.
func (r rolls) canBegin(p Pair) bool {
	return p.First == 0 || p.Second == r.end().Second
}

// canEnd reports whether a barrier can end with a pair.
func (r rolls) canEnd(p Pair) bool {
	return p.First == r.end().First || p.Second == 0
}

// canFollow reports whether a pair can come right after another one in a barrier.
func (p Pair) canFollow(before Pair) bool {
	down, left := before.First+1, before.Second-1
	return p.First <= down && p.Second >= left && p != Pair{First: down, Second: left}
}

// above returns the pairs with a distance above a height.
func (r rolls) above(height int) []Pair {
	var all []Pair
	for _, pair := range r.pairs() {
		if r.distance(pair) > height {
			all = append(all, pair)
		}
	}
	return all
}

// barrier returns a barrier for a height with as few pairs as possible, or no pair if there is none.
func (r rolls) barrier(height int) []Pair {
	above := r.above(height)
	met := map[Pair]Pair{} // the pair from which each one was met; the first one of a barrier, from itself
	var ends queue[Pair]
	for _, pair := range above {
		if r.canBegin(pair) {
			met[pair] = pair
			ends.add(pair)
		}
	}
	for end, ok := ends.next(); ok; end, ok = ends.next() {
		if r.canEnd(end) {
			return traced(met, end)
		}
		for _, pair := range above {
			if _, known := met[pair]; !known && pair.canFollow(end) {
				met[pair] = end
				ends.add(pair)
			}
		}
	}
	return nil
}

// traced returns the pairs that have led to the last one of them.
func traced(met map[Pair]Pair, last Pair) []Pair {
	path := []Pair{last}
	for pair := last; met[pair] != pair; pair = met[pair] {
		path = append(path, met[pair])
	}
	slices.Reverse(path)
	return path
}
