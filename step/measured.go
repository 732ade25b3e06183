package step

// measured is the positions of a copy, with the greatest error.
type measured struct {
	off       int
	positions []int
}

// copyOf returns a copy of a sheet.
func copyOf(x Sheet, copied int) measured {
	return measured{off: x.Off, positions: x.Copies[copied]}
}

// only returns the same copy with some of its positions alone.
func (c measured) only(holes []int) measured {
	var positions []int
	for _, hole := range holes {
		positions = append(positions, c.positions[hole])
	}
	return measured{off: c.off, positions: positions}
}

// ring returns the offsets of a step that the positions fit.
func (c measured) ring(step int) ring {
	r := ring{step: step}
	for _, p := range c.positions {
		r.arcs = append(r.arcs, arcOf(p, c.off, step))
	}
	return r
}

// allows reports whether an offset of a step is possible for the copy.
func (c measured) allows(step int) bool {
	return c.ring(step).possible()
}

// possibleOn returns a function that reports whether all copies of a sheet allow a step.
func possibleOn(x Sheet) func(step int) bool {
	var copies []func(step int) bool
	for copied := range x.Copies {
		copies = append(copies, copyOf(x, copied).allows)
	}
	return func(step int) bool {
		for _, allows := range copies {
			if !allows(step) {
				return false
			}
		}
		return true
	}
}
