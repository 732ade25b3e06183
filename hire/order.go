package hire

import (
	"cmp"
	"slices"
)

// compare compares two requests by the first one of their numbers in which they differ.
func compare(one, other Request, numbers ...func(Request) int) int {
	for _, number := range numbers {
		if c := cmp.Compare(number(one), number(other)); c != 0 {
			return c
		}
	}
	return 0
}

// inOrder returns numbers of requests in an order that depends only on what these are, so that it does not matter in which order they are told: as they begin, then as they end, then by what they pay.
func (h Hall) inOrder(numbers []int) []int {
	from := func(r Request) int { return r.From }
	to := func(r Request) int { return r.To }
	pays := func(r Request) int { return r.Pays }
	order := slices.Clone(numbers)
	slices.SortStableFunc(order, func(one, other int) int {
		return compare(h.Requests[one], h.Requests[other], from, to, pays)
	})
	return order
}

// filled returns a list of so many elements, each of which is made from its index.
func filled[T any](size int, element func(i int) T) []T {
	list := make([]T, size)
	for i := range list {
		list[i] = element(i)
	}
	return list
}
