package step

import (
	"iter"
	"slices"
)

// arc is the offsets that a position fits: size of them from first on, where the last offset of the step is followed by 0.
type arc struct {
	first int
	size  int
}

// arcOf returns the arc of a position. An arc of all offsets begins at 0, so that arcs are equal just if they have the same offsets.
func arcOf(position, off, step int) arc {
	size := 2*off + 1
	if size >= step {
		return arc{first: 0, size: step}
	}
	return arc{first: remainder(position-off, step), size: size}
}

// from returns the least offset of the arc from a given one on, or the step if there is none.
func (a arc) from(offset, step int) int {
	end := a.first + a.size
	switch {
	case offset < end-step:
		return offset
	case offset < a.first:
		return a.first
	case offset < end:
		return offset
	}
	return step
}

// ring is the offsets of a step, and the arcs of them that the positions of a copy fit. All of its arcs have the same size, because all errors have the same bound.
type ring struct {
	step int
	arcs []arc
}

// offsets yields the offsets that are in all arcs, in ascending order.
func (r ring) offsets() iter.Seq[int] {
	return func(yield func(int) bool) {
		offset := 0
	search:
		for offset < r.step {
			for _, a := range r.arcs {
				if next := a.from(offset, r.step); next > offset {
					offset = next
					continue search
				}
			}
			if !yield(offset) {
				break search
			}
			offset++
		}
	}
}

// possible reports whether any offset is in all arcs.
func (r ring) possible() bool {
	for range r.offsets() {
		return true
	}
	return false
}

// clash returns the numbers of the fewest arcs that have no offset in common, in ascending order, for a ring of which no offset is in all arcs.
func (r ring) clash() []int {
	return shortest(r.distinct(), func(given int) []int {
		chain := r.chain(given)
		slices.Sort(chain)
		return chain
	})
}

// distinct returns the numbers of the arcs, without those that are equal to an arc before them: these exclude the same offsets.
func (r ring) distinct() []int {
	var list []int
	for i, a := range r.arcs {
		if slices.Index(r.arcs, a) == i {
			list = append(list, i)
		}
	}
	return list
}

// chain returns the numbers of as few arcs as possible, among them a given one, that have no offset in common.
//
// Each arc excludes the offsets behind it. The chain goes round the ring, from the first offset that the given arc excludes; the next arc is always the one that excludes the furthest of those that leave no gap. No choice gets further with as many arcs, because all of them exclude equally many offsets. There always is such an arc, because no offset is in all of them.
func (r ring) chain(given int) []int {
	list := []int{given}
	start := r.arcs[given].first
	excluded := r.step - r.arcs[given].size
	for reach := excluded; reach < r.step; {
		next, most := given, 0
		for i, a := range r.arcs {
			away := remainder(a.first-start, r.step)
			if away <= reach && away > most {
				next, most = i, away
			}
		}
		list = append(list, next)
		reach = most + excluded
	}
	return list
}

// shortest returns the shortest of the lists that a function makes of elements.
func shortest[T any](elements []T, list func(T) []T) []T {
	var best []T
	for i, element := range elements {
		if l := list(element); i == 0 || len(l) < len(best) {
			best = l
		}
	}
	return best
}
