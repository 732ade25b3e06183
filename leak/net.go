package leak

import (
	"iter"
	"slices"

	"pianola/api"
)

// ends yields the tubes at a place: the place at the other end, and the Leak.
func (n Net) ends(place int) iter.Seq2[int, int] {
	return func(yield func(other, leak int) bool) {
		for _, t := range n.Tubes {
			if t.From == place && !yield(t.To, t.Leak) || t.To == place && !yield(t.From, t.Leak) {
				return
			}
		}
	}
}

// near returns which places are connected with one.
func (n Net) near(place int) [MaxPlaces]bool {
	var found [MaxPlaces]bool
	var visit func(place int)
	visit = func(place int) {
		if found[place] {
			return
		}
		found[place] = true
		for other := range n.ends(place) {
			visit(other)
		}
	}
	visit(place)
	return found
}

// flow returns what flows out of a place.
func (n Net) flow(place int, pressures []int) int {
	sum := 0
	for other, leak := range n.ends(place) {
		sum += leak * (pressures[place] - pressures[other])
	}
	return sum
}

// isProof reports whether pressures are those for two places, and a fraction is the whole between them. In a connected net nothing else makes the flows equal.
func (n Net) isProof(a, b int, tops []int, under int, whole api.Ratio) bool {
	if tops[a] != under || tops[b] != 0 {
		return false
	}
	for place := range tops {
		if place != a && place != b && n.flow(place, tops) != 0 {
			return false
		}
	}
	return over(n.flow(a, tops), under) == over(whole.Num, whole.Den)
}

// leaking returns a net with other Leaks.
func (n Net) leaking(leak func(tube int) int) Net {
	tubes := slices.Clone(n.Tubes)
	for i := range tubes {
		tubes[i].Leak = leak(i)
	}
	return Net{Places: n.Places, Tubes: tubes}
}

// without returns a net without a tube.
func (n Net) without(tube int) Net {
	return Net{Places: n.Places, Tubes: slices.Delete(slices.Clone(n.Tubes), tube, tube+1)}
}

// bounds returns the smallest and the greatest whole. With a greater Leak no whole is smaller, so the ends of the spans lead to them.
func (n Net) bounds(a, b int, leaks []api.Span) (least, most fraction) {
	low := n.leaking(func(tube int) int { return leaks[tube].Lo })
	high := n.leaking(func(tube int) int { return leaks[tube].Hi })
	return low.between(a, b).whole(), high.between(a, b).whole()
}

// repair returns the first tube without which the whole is smallest, and this whole.
func (n Net) repair(a, b int) (tube int, least fraction) {
	var wholes []fraction
	for i := range n.Tubes {
		wholes = append(wholes, n.without(i).between(a, b).whole())
	}
	least = best(wholes, fraction.less)
	return slices.IndexFunc(wholes, least.is), least
}
