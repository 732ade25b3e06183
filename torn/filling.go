package torn

import "slices"

// filling is a set of keys for each row: where it has holes.
type filling []set

// fillingOf returns the filling of lists of keys.
func fillingOf(lists [][]int) filling {
	var f filling
	for _, l := range lists {
		f = append(f, setOf(l))
	}
	return f
}

// lists returns the lists of keys of a filling.
func (f filling) lists() [][]int {
	var lists [][]int
	for _, holes := range f {
		lists = append(lists, slices.Collect(holes.elements()))
	}
	return lists
}

// fits reports whether a filling with as many rows as a sheet fits it.
func (f filling) fits(x Sheet) bool {
	left := needsOf(x.Keys)
	for row, holes := range f {
		after, ok := left.after(holes)
		if !ok || holes.size() != x.Rows[row] {
			return false
		}
		left = after
	}
	return left == needs{}
}

// fill returns a filling in which the holes of each row, one after another, go to the keys that need the most, and whether it fits. If it does not, no filling does.
func (x Sheet) fill() (f filling, ok bool) {
	f = make(filling, len(x.Rows))
	left := needsOf(x.Keys)
rows:
	for row, holes := range x.Rows {
		order := left.order(len(x.Keys))
		for _, key := range order[:smaller(holes, len(order))] {
			if left[key] == 0 {
				break rows // no key that comes after this one needs a hole, either
			}
			f[row] = f[row].with(key)
			left[key]--
		}
	}
	return f, f.fits(x)
}
