package step_test

import (
	"math/bits"
	"math/rand"
	"slices"

	"pianola/api"
	"pianola/step"
)

// The reference follows the chapter's definitions word by word, and tries everything.

// rowsOf returns all rows of a position: all k with a distance of at most off between the position and offset + k step.
func rowsOf(position, off, size, offset int) []int {
	var rows []int
	first := (position - off - offset) / size
	last := (position + off - offset) / size
	for k := first - 2; k <= last+2; k++ {
		distance := position - (offset + k*size)
		if -off <= distance && distance <= off {
			rows = append(rows, k)
		}
	}
	return rows
}

// offsetsOf returns all offsets that all positions fit.
func offsetsOf(positions []int, off, size int) []int {
	var list []int
	for offset := 0; offset < size; offset++ {
		fit := true
		for _, p := range positions {
			fit = fit && len(rowsOf(p, off, size, offset)) > 0
		}
		if fit {
			list = append(list, offset)
		}
	}
	return list
}

// stepsOf returns all steps of a span for which every copy has an offset.
func stepsOf(x step.Sheet, steps api.Span) []int {
	var list []int
	for size := steps.Lo; size <= steps.Hi; size++ {
		possible := true
		for _, positions := range x.Copies {
			possible = possible && len(offsetsOf(positions, x.Off, size)) > 0
		}
		if possible {
			list = append(list, size)
		}
	}
	return list
}

// isClash reports whether no offset fits the positions with these numbers.
func isClash(positions []int, off, size int, holes []int) bool {
	var some []int
	for _, hole := range holes {
		some = append(some, positions[hole])
	}
	return len(offsetsOf(some, off, size)) == 0
}

// fewestOf returns how many positions the smallest clash has, and 0 if there is none.
func fewestOf(positions []int, off, size int) int {
	fewest := 0
	for set := 1; set < 1<<len(positions); set++ {
		count := bits.OnesCount(uint(set))
		if fewest > 0 && count >= fewest {
			continue
		}
		if isClash(positions, off, size, members(set, len(positions))) {
			fewest = count
		}
	}
	return fewest
}

// members returns the numbers of the bits of a set, in ascending order.
func members(set, n int) []int {
	var list []int
	for i := 0; i < n; i++ {
		if set>>i&1 == 1 {
			list = append(list, i)
		}
	}
	return list
}

// sheet returns a sheet.
func sheet(off int, copies ...[]int) step.Sheet {
	return step.Sheet{Off: off, Copies: copies}
}

// list returns a list.
func list(l ...int) []int { return l }

// span returns a span.
func span(lo, hi int) api.Span { return api.Span{Lo: lo, Hi: hi} }

// exampleX, exampleW and exampleZ are X, W and Z of the chapter's examples.
func exampleX() step.Sheet { return sheet(1, list(10, 24, 31, 45), list(3, 17)) }

func exampleW() step.Sheet { return sheet(1, list(0, 2, 4)) }

func exampleZ() step.Sheet { return sheet(0, list(0, 4, 6)) }

// newRandom returns the numbers that all runs of the tests share.
func newRandom() *rand.Rand { return rand.New(rand.NewSource(20)) }

// scattered returns a sheet of any positions up to a greatest one.
func scattered(r *rand.Rand, off, copies, holes, greatest int) step.Sheet {
	x := step.Sheet{Off: r.Intn(off + 1)}
	for range 1 + r.Intn(copies) {
		var positions []int
		for range 1 + r.Intn(holes) {
			positions = append(positions, r.Intn(greatest+1))
		}
		x.Copies = append(x.Copies, positions)
	}
	return x
}

// master is a truth: a step, the offset of each copy, and the row of each of its holes.
type master struct {
	size    int
	offsets []int
	rows    [][]int
}

// measure makes up a master, and a sheet that was measured from it with errors of at most off.
func measure(r *rand.Rand, off, size int) (step.Sheet, master) {
	x := step.Sheet{Off: off}
	m := master{size: size}
	for range 1 + r.Intn(3) {
		offset := r.Intn(size)
		var positions, rows []int
		for range 1 + r.Intn(6) {
			row := 1 + off/size + r.Intn(40)
			rows = append(rows, row)
			positions = append(positions, offset+row*size+r.Intn(2*off+1)-off)
		}
		m.offsets = append(m.offsets, offset)
		m.rows = append(m.rows, rows)
		x.Copies = append(x.Copies, positions)
	}
	return x, m
}

// cloned returns a sheet that shares no memory with another one.
func cloned(x step.Sheet) step.Sheet {
	y := step.Sheet{Off: x.Off}
	for _, positions := range x.Copies {
		y.Copies = append(y.Copies, slices.Clone(positions))
	}
	return y
}
