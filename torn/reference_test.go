package torn_test

import (
	"math/big"
	"math/rand"
	"slices"

	"pianola/api"
	"pianola/torn"
)

// The reference follows the chapter's definitions word by word: it makes all fillings of small sheets, and tries all rows for a clash. For large sheets it asks by a flow of holes from rows to keys whether there is a filling.

// list returns a list of numbers.
func list(l ...int) []int { return l }

// lists returns a list of lists.
func lists(l ...[]int) [][]int { return l }

// sheet returns a sheet.
func sheet(rows, keys []int) torn.Sheet { return torn.Sheet{Rows: rows, Keys: keys} }

// part returns a fraction.
func part(num, den int) api.Ratio { return api.Ratio{Num: num, Den: den} }

// equal reports whether two lists of lists are equal; nil lists are empty ones.
func equal(a, b [][]int) bool { return slices.EqualFunc(a, b, slices.Equal[[]int]) }

// total returns the sum of numbers.
func total(l []int) int {
	sum := 0
	for _, n := range l {
		sum += n
	}
	return sum
}

// countsOf returns the sheet of a filling.
func countsOf(filling [][]int, keys int) torn.Sheet {
	x := sheet(nil, make([]int, keys))
	for _, l := range filling {
		x.Rows = append(x.Rows, len(l))
		for _, key := range l {
			x.Keys[key]++
		}
	}
	return x
}

// fitsBy reports whether a filling, whose lists are ascending, has the counts of a sheet.
func fitsBy(x torn.Sheet, filling [][]int) bool {
	y := countsOf(filling, len(x.Keys))
	return slices.Equal(x.Rows, y.Rows) && slices.Equal(x.Keys, y.Keys)
}

// subsets returns all lists of so many of the numbers from a least one to below an end.
func subsets(least, end, size int) [][]int {
	if size == 0 {
		return lists(nil)
	}
	var all [][]int
	for n := least; n <= end-size; n++ {
		for _, rest := range subsets(n+1, end, size-1) {
			all = append(all, append(list(n), rest...))
		}
	}
	return all
}

// allFillings returns all fillings that fit a small sheet. It tries all rows with the right number of holes.
func allFillings(x torn.Sheet) [][][]int {
	fillings := [][][]int{nil}
	for _, size := range x.Rows {
		var longer [][][]int
		for _, f := range fillings {
			for _, l := range subsets(0, len(x.Keys), size) {
				longer = append(longer, append(slices.Clone(f), l))
			}
		}
		fillings = longer
	}
	return slices.DeleteFunc(fillings, func(f [][]int) bool { return !fitsBy(x, f) })
}

// byKeys returns how many ways there are to give the keys from one on their holes, with so many left in each row. Unlike the program it goes from key to key, and remembers nothing.
func byKeys(keys, left []int) int {
	if len(keys) == 0 {
		if total(left) == 0 {
			return 1
		}
		return 0
	}
	ways := 0
next:
	for _, rows := range subsets(0, len(left), keys[0]) {
		rest := slices.Clone(left)
		for _, row := range rows {
			if rest[row] == 0 {
				continue next
			}
			rest[row]--
		}
		ways += byKeys(keys[1:], rest)
	}
	return ways
}

// made returns the filling of P11.2, hole by hole, for a sheet that is possible.
func made(x torn.Sheet) [][]int {
	need := slices.Clone(x.Keys)
	var filling [][]int
	for _, size := range x.Rows {
		var row []int
		before := slices.Clone(need)
		for range size {
			best := -1
			for key, n := range before {
				if !slices.Contains(row, key) && (best < 0 || n > before[best]) {
					best = key
				}
			}
			row = append(row, best)
			need[best]--
		}
		slices.Sort(row)
		filling = append(filling, row)
	}
	return filling
}

// hasHole reports whether a filling has a hole at a place.
func hasHole(filling [][]int, row, key int) bool {
	return slices.Contains(filling[row], key)
}

// placesOf returns what each place is, by all fillings that fit.
func placesOf(x torn.Sheet, all [][][]int) [][]int {
	var places [][]int
	for row := range x.Rows {
		var l []int
		for key := range x.Keys {
			switch withHole(all, row, key) {
			case 0:
				l = append(l, torn.Empty)
			case len(all):
				l = append(l, torn.Full)
			default:
				l = append(l, torn.Open)
			}
		}
		places = append(places, l)
	}
	return places
}

// withHole returns how many fillings have a hole at a place.
func withHole(all [][][]int, row, key int) int {
	n := 0
	for _, f := range all {
		if hasHole(f, row, key) {
			n++
		}
	}
	return n
}

// isClash reports whether rows are a clash.
func isClash(x torn.Sheet, rows []int) bool {
	holes, room := 0, 0
	for _, row := range rows {
		holes += x.Rows[row]
	}
	for _, n := range x.Keys {
		room += min(n, len(rows))
	}
	return holes > room
}

// someClash reports whether any rows are a clash. It tries all of them.
func someClash(x torn.Sheet) bool {
	for size := 1; size <= len(x.Rows); size++ {
		for _, rows := range subsets(0, len(x.Rows), size) {
			if isClash(x, rows) {
				return true
			}
		}
	}
	return false
}

// flow is holes that go from rows to keys, as far as they could be placed.
type flow struct {
	holes  [][]bool
	shut   func(row, key int) bool // a place that has no hole
	left   []int                   // what keys still need
	passed []bool                  // the keys at which a hole was looked for
}

// place looks for a key at which a row gets one hole more, and moves holes of other rows for it.
func (f *flow) place(row int) bool {
	for key := range f.left {
		if f.shut(row, key) || f.holes[row][key] || f.passed[key] {
			continue
		}
		f.passed[key] = true
		if f.left[key] > 0 {
			f.left[key]--
			f.holes[row][key] = true
			return true
		}
		for other := range f.holes {
			if f.holes[other][key] && f.place(other) {
				f.holes[other][key] = false
				f.holes[row][key] = true
				return true
			}
		}
	}
	return false
}

// isPossible reports whether a filling that has no holes at some places fits a sheet.
func isPossible(x torn.Sheet, shut func(row, key int) bool) bool {
	return total(x.Rows) == total(x.Keys) && haveRoom(x, shut)
}

// haveRoom reports whether all holes of the rows can be placed so that no key has more than it needs.
func haveRoom(x torn.Sheet, shut func(row, key int) bool) bool {
	f := flow{shut: shut, left: slices.Clone(x.Keys)}
	for range x.Rows {
		f.holes = append(f.holes, make([]bool, len(x.Keys)))
	}
	for row, n := range x.Rows {
		for range n {
			f.passed = make([]bool, len(x.Keys))
			if !f.place(row) {
				return false
			}
		}
	}
	return true
}

// nowhere shuts no place.
func nowhere(int, int) bool { return false }

// placeBy returns what a place is: it asks for a filling with a hole there, and for one without.
func placeBy(x torn.Sheet, row, key int) int {
	here := func(r, k int) bool { return r == row && k == key }
	empty := isPossible(x, here)
	rest := sheet(slices.Clone(x.Rows), slices.Clone(x.Keys))
	rest.Rows[row]--
	rest.Keys[key]--
	full := min(rest.Rows[row], rest.Keys[key]) >= 0 && isPossible(rest, here)
	switch {
	case full && empty:
		return torn.Open
	case full:
		return torn.Full
	}
	return torn.Empty
}

// ratioOf returns a fraction in lowest terms.
func ratioOf(num, den int) api.Ratio {
	r := big.NewRat(int64(num), int64(den))
	return part(int(r.Num().Int64()), int(r.Denom().Int64()))
}

// newRandom returns the numbers that all runs of the tests share.
func newRandom() *rand.Rand { return rand.New(rand.NewSource(110)) }

// between returns a number from a least to a greatest one.
func between(r *rand.Rand, least, greatest int) int { return least + r.Intn(greatest-least+1) }

// anyFilling returns a filling: nearly even, nearly full, nearly empty, or one whose places are mostly certain.
func anyFilling(r *rand.Rand, rows, keys int) [][]int {
	dense, slope := between(r, 0, 10), list(0, 0, 5, 20)[r.Intn(4)]
	filling := make([][]int, rows)
	for row := range filling {
		for key := range keys {
			if r.Intn(10)+slope*(row*keys+key*rows-rows*keys)/(rows*keys) < dense {
				filling[row] = append(filling[row], key)
			}
		}
	}
	return filling
}

// anyPossible returns a possible sheet with at most so many rows, and keys.
func anyPossible(r *rand.Rand, size int) torn.Sheet {
	rows, keys := between(r, 1, size), between(r, 1, size)
	return shuffled(r, countsOf(anyFilling(r, rows, keys), keys))
}

// anySum returns a sheet whose Rows and Keys have the same sum, often one that is not possible.
func anySum(r *rand.Rand, size int) torn.Sheet {
	x := anyPossible(r, size)
	for range r.Intn(2 * size) {
		l := x.Rows
		if r.Intn(2) == 0 {
			l = x.Keys
		}
		from, to := r.Intn(len(l)), r.Intn(len(l))
		if l[from] > 0 && l[to] < torn.MaxSide {
			l[from]--
			l[to]++
		}
	}
	return x
}

// anySheet returns any sheet, with numbers up to the limit.
func anySheet(r *rand.Rand, size int) torn.Sheet {
	most := list(size, size, torn.MaxSide)[r.Intn(3)]
	var x torn.Sheet
	for range between(r, 1, size) {
		x.Rows = append(x.Rows, r.Intn(most+1))
	}
	for range between(r, 1, size) {
		x.Keys = append(x.Keys, r.Intn(most+1))
	}
	return x
}

// copied returns a list of lists in memory of its own.
func copied(l [][]int) [][]int {
	var out [][]int
	for _, one := range l {
		out = append(out, slices.Clone(one))
	}
	return out
}

// permuted returns the elements of a list at other places.
func permuted[T any](l []T, order []int) []T {
	var out []T
	for _, i := range order {
		out = append(out, l[i])
	}
	return out
}

// shuffled returns a sheet with rows and keys in another order.
func shuffled(r *rand.Rand, x torn.Sheet) torn.Sheet {
	return sheet(permuted(x.Rows, r.Perm(len(x.Rows))), permuted(x.Keys, r.Perm(len(x.Keys))))
}

// turned returns a list of lists with its rows and its keys exchanged.
func turned(l [][]int) [][]int {
	var out [][]int
	for key := range l[0] {
		var one []int
		for row := range l {
			one = append(one, l[row][key])
		}
		out = append(out, one)
	}
	return out
}
