package torn

import (
	"cmp"
	"slices"
)

// needs is how many holes each key, or each row, needs. Since it always has room for MaxSide of them, needs are compared as a whole; and since they are at most MaxSide, too, they fit into bytes, which keeps the keys of a map small.
type needs [MaxSide]uint8

// needsOf returns the needs that numbers stand for.
func needsOf(numbers []int) needs {
	var n needs
	for i, holes := range numbers {
		n[i] = uint8(holes)
	}
	return n
}

// after returns what keys need after a row with these holes, and whether there can be such a row.
func (n needs) after(holes set) (left needs, ok bool) {
	for key := range holes.elements() {
		if n[key] == 0 {
			return needs{}, false
		}
		n[key]--
	}
	return n, true
}

// compare tells which one of two comes first: the one that needs more holes, or the one with the smaller number.
func (n needs) compare(one, other int) int {
	return cmp.Or(cmp.Compare(n[other], n[one]), cmp.Compare(one, other))
}

// order returns the first ones, so many of them, in the order in which they come.
func (n needs) order(size int) []int {
	return slices.SortedFunc(upTo(size).elements(), n.compare)
}
