package align

import (
	"slices"

	"pianola/api"
)

// highest returns the greatest one of one or more heights.
func highest(heights ...int) int {
	most := heights[0]
	for _, height := range heights[1:] {
		most = max(most, height)
	}
	return most
}

// lowest returns the smallest one of one or more heights.
func lowest(heights ...int) int {
	least := heights[0]
	for _, height := range heights[1:] {
		least = min(least, height)
	}
	return least
}

// height returns the height of a walk.
func (r rolls) height(walk []Pair) int {
	var distances []int
	for _, pair := range walk {
		distances = append(distances, r.distance(pair))
	}
	return highest(distances...)
}

// heights returns, for each pair, the smallest height of all ways from there to the end of the walks.
func (r rolls) heights() map[Pair]int {
	heights := map[Pair]int{}
	for _, pair := range slices.Backward(r.pairs()) {
		if pair == r.end() {
			heights[pair] = r.distance(pair)
			continue
		}
		var next []int
		for to := range r.moves(pair) {
			next = append(next, heights[to])
		}
		heights[pair] = highest(r.distance(pair), lowest(next...))
	}
	return heights
}

// gap returns the gap between the rolls.
func (r rolls) gap() int {
	return r.heights()[r.start()]
}

// lowWalk returns the first one of the walks whose height is the gap.
func (r rolls) lowWalk() []Pair {
	heights := r.heights()
	pair := r.start()
	gap, walk := heights[pair], []Pair{pair}
	for pair != r.end() {
		for to := range r.moves(pair) {
			if heights[to] <= gap {
				pair = to
				break
			}
		}
		walk = append(walk, pair)
	}
	return walk
}

// walks returns how many walks have at most a height, or api.Never if there are api.Never of them or more.
func (r rolls) walks(height int) int {
	ways := map[Pair]int{} // from each pair to the end of the walks
	for _, pair := range slices.Backward(r.pairs()) {
		if r.distance(pair) > height {
			continue
		}
		if pair == r.end() {
			ways[pair] = 1
		}
		for to := range r.moves(pair) {
			ways[pair] = min(ways[pair]+ways[to], api.Never)
		}
	}
	return ways[r.start()]
}
