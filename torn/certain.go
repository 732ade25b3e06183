package torn

// certain returns what each place is, if the filling fits.
//
// A row can give a hole to another one that has none at this key, which gives one of its own holes to a third one, and so on. If the last one gives a hole to the first row, all have as many as before, and the filling that they have now fits, too. Any two fillings that fit differ by such rings, so that a place is open if a ring leads through it.
func (f filling) certain(keys int) [][]int {
	gaps := f.gaps()
	var places [][]int
	for row, holes := range f {
		// The row can get a hole at each key that holes reach, and give one at each key that gaps reach: giving a hole is getting a gap.
		open := f.reached(row)&^holes | gaps.reached(row)&holes
		places = append(places, kinds(keys, holes, open))
	}
	return places
}

// kinds returns what each place of a row is.
func kinds(keys int, holes, open set) []int {
	var l []int
	for key := range keys {
		switch {
		case open.has(key):
			l = append(l, Open)
		case holes.has(key):
			l = append(l, Full)
		default:
			l = append(l, Empty)
		}
	}
	return l
}

// gaps returns what has a hole just where the filling has none. That all its rows have the numbers that are no keys makes no difference, since no row can give such a hole to another one.
func (f filling) gaps() filling {
	var gaps filling
	for _, holes := range f {
		gaps = append(gaps, ^holes)
	}
	return gaps
}

// reached returns the keys at which there is a hole in this row, or in one of those that a hole can be given to, from row to row.
func (f filling) reached(row int) set {
	var rows, keys set
	var visit func(row int)
	visit = func(row int) {
		rows = rows.with(row)
		keys |= f[row]
		for next, holes := range f {
			if !rows.has(next) && f[row]&^holes != 0 {
				visit(next)
			}
		}
	}
	visit(row)
	return keys
}
