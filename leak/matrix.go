package leak

// matrix has a row for each place, with a factor for each pressure.
type matrix [MaxPlaces][MaxPlaces]int

// only returns the row of a single place.
func only(place int) (row [MaxPlaces]int) {
	row[place] = 1
	return row
}

// with returns a matrix with another row.
func (m matrix) with(place int, row [MaxPlaces]int) matrix {
	m[place] = row
	return m
}

// determinant returns the determinant of a matrix, developed row by row.
func (m matrix) determinant() int {
	var taken [MaxPlaces]bool
	var develop func(row int) int
	develop = func(row int) int {
		if row == len(m) {
			return 1
		}
		sum, sign := 0, 1
		for column, factor := range m[row] {
			if taken[column] {
				continue
			}
			if factor != 0 {
				taken[column] = true
				sum += sign * factor * develop(row+1)
				taken[column] = false
			}
			sign = -sign
		}
		return sum
	}
	return develop(0)
}
