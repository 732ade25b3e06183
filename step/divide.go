package step

// divideDown returns n / d, rounded down, for a d above 0.
func divideDown(n, d int) int {
	q := n / d
	if n%d < 0 {
		q--
	}
	return q
}

// divideUp returns n / d, rounded up, for a d above 0.
func divideUp(n, d int) int {
	return -divideDown(-n, d)
}

// remainder returns n less the greatest multiple of d that is not greater, for a d above 0.
func remainder(n, d int) int {
	return n - d*divideDown(n, d)
}
