package level

import (
	"iter"
	"slices"
)

// division is a division of codes among players, and its error.
type division struct {
	starts []int
	worst  fraction
}

// sections is the best errors of the codes from one index up to another one.
type sections [MaxCodes][MaxCodes + 1]fraction

// sectionsOf returns the best errors of all sections of a coding.
func sectionsOf(c coding) *sections {
	var errors sections
	for from := range c {
		for to := from + 1; to <= len(c); to++ {
			errors[from][to] = c[from:to].bestError()
		}
	}
	return &errors
}

// divide returns a best division among a number of players, of whom there are no more than codes.
func (c coding) divide(players int) division {
	errors := sectionsOf(c)
	best := make([]division, len(c)+1) // of so many codes, from the first one on, among the players so far
	for to := 1; to <= len(c); to++ {
		best[to] = division{starts: []int{0}, worst: errors[0][to]}
	}
	for player := 1; player < players; player++ {
		// From the end on, since fewer codes must not have one more player yet.
		for to := len(c); to > player; to-- {
			best[to] = greatest(errors.after(best, player, to), func(a, b division) bool { return b.worst.less(a.worst) })
		}
	}
	return best[len(c)]
}

// after yields divisions of so many codes in which one more player has the last ones. The others have a best division of those before them, and at least one code each.
func (errors *sections) after(best []division, players, codes int) iter.Seq[division] {
	return func(yield func(division) bool) {
		for start := players; start < codes; start++ {
			others := best[start]
			all := division{starts: append(slices.Clone(others.starts), start), worst: others.worst}
			if own := errors[start][codes]; all.worst.less(own) {
				all.worst = own
			}
			if !yield(all) {
				return
			}
		}
	}
}
