package edit

import (
	"cmp"
	"slices"

	"pianola/api"
)

// place is where a note is: no two notes are at one place.
type place struct {
	at  int
	key int
}

// placeOf returns the place of a note.
func placeOf(n Note) place {
	return place{at: n.At, key: n.Key}
}

// comparePlaces returns a number below 0, 0, or above 0, as a place comes before another one, is equal to it, or comes after it.
func comparePlaces(a, b place) int {
	return cmp.Or(cmp.Compare(a.at, b.at), cmp.Compare(a.key, b.key))
}

// inRange reports whether the numbers of a note are as stated.
func inRange(n Note) bool {
	return n.At >= 0 && n.At <= api.MaxTime &&
		n.Key >= 0 && n.Key < api.MaxKeys &&
		n.Long >= 1 && n.Long <= MaxLong
}

// traced is a note with its origin.
type traced struct {
	note   Note
	origin Origin
}

// copyOf returns the origin of a copy of a note with an origin: a copy of a new note is new.
func copyOf(o Origin) Origin {
	return Origin{Of: o.Of, Copy: o.Of >= 0}
}

// patchOf returns the patch from a roll to notes, which are given in any order.
func patchOf(from Roll, notes []traced) Patch {
	sorted := slices.SortedFunc(slices.Values(notes), func(a, b traced) int {
		return comparePlaces(placeOf(a.note), placeOf(b.note))
	})
	return Patch{
		From:    slices.Clone(from),
		To:      converted(sorted, func(t traced) Note { return t.note }),
		Origins: converted(sorted, func(t traced) Origin { return t.origin }),
	}
}

// converted returns what a function makes of each element of a list.
func converted[A, B any](list []A, convert func(A) B) []B {
	var out []B
	for _, element := range list {
		out = append(out, convert(element))
	}
	return out
}
