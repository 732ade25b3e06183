package step_test

import (
	"slices"
	"testing"

	"pianola/api"
	"pianola/step"
)

// must fails a test if there is an error.
func must(t *testing.T, e api.Errno) {
	t.Helper()
	if e != api.OK {
		t.Fatalf("error %d", e)
	}
}

// possibleSteps returns the possible steps of a span of a sheet.
func possibleSteps(t *testing.T, x step.Sheet, steps api.Span) []int {
	t.Helper()
	got, e := step.Steps(x, steps)
	must(t, e)
	return got
}

// contained reports whether all elements of a list are in another one.
func contained(some, all []int) bool {
	return !slices.ContainsFunc(some, func(n int) bool { return !slices.Contains(all, n) })
}

// P1.7: the true step, offsets and rows are among those that are returned.
func TestTruthIsReturned(t *testing.T) {
	r := newRandom()
	for range 1500 {
		off := r.Intn(step.MaxOff + 1)
		x, m := measure(r, off, 1+r.Intn(step.MaxStep))
		if got := possibleSteps(t, x, span(m.size, m.size)); !slices.Equal(got, list(m.size)) {
			t.Fatalf("Steps(%v) leaves out the true step %d", x, m.size)
		}
		for copied, offset := range m.offsets {
			offsets, e := step.Offsets(x, copied, m.size)
			must(t, e)
			if !slices.Contains(offsets, offset) {
				t.Fatalf("Offsets(%v, %d, %d) leaves out %d", x, copied, m.size, offset)
			}
			rows, e := step.Rows(x, copied, m.size, offset)
			must(t, e)
			for i, row := range m.rows[copied] {
				if row < rows[i].Lo || row > rows[i].Hi {
					t.Fatalf("Rows(%v, %d, %d, %d): %v leaves out %d", x, copied, m.size, offset, rows[i], row)
				}
			}
		}
	}
}

// P1.8 (with P1.2 and P1.3): offsets and rows are those of the definition, and no others.
func TestOffsetsAndRowsAreExact(t *testing.T) {
	r := newRandom()
	for range 1500 {
		x := scattered(r, 6, 2, 5, 60)
		size := 1 + r.Intn(20)
		offsets, e := step.Offsets(x, 0, size)
		must(t, e)
		if want := offsetsOf(x.Copies[0], x.Off, size); !slices.Equal(offsets, want) {
			t.Fatalf("Offsets(%v, 0, %d) = %v, want %v", x, size, offsets, want)
		}
		for offset := range size {
			checkRows(t, x, size, offset, slices.Contains(offsets, offset))
		}
	}
}

// checkRows compares the rows of the copy 0 with those of the definition.
func checkRows(t *testing.T, x step.Sheet, size, offset int, possible bool) {
	t.Helper()
	rows, e := step.Rows(x, 0, size, offset)
	if !possible {
		if e != api.ErrNone || len(rows) != 0 {
			t.Fatalf("Rows(%v, 0, %d, %d) = %v, %d, want ErrNone", x, size, offset, rows, e)
		}
		return
	}
	must(t, e)
	if len(rows) != len(x.Copies[0]) {
		t.Fatalf("Rows(%v, 0, %d, %d) = %v", x, size, offset, rows)
	}
	for i, p := range x.Copies[0] {
		want := rowsOf(p, x.Off, size, offset)
		if rows[i] != span(want[0], want[len(want)-1]) || rows[i].Hi-rows[i].Lo+1 != len(want) {
			t.Fatalf("Rows(%v, 0, %d, %d): %v, want %v", x, size, offset, rows[i], want)
		}
	}
}

// P1.8 (with P1.4): steps are those of the definition, and no others; the greatest is the last of them.
func TestStepsAreExact(t *testing.T) {
	r := newRandom()
	for range 600 {
		x := scattered(r, 6, 3, 4, 90)
		lo := 1 + r.Intn(20)
		steps := span(lo, lo+r.Intn(20))
		want := stepsOf(x, steps)
		if got := possibleSteps(t, x, steps); !slices.Equal(got, want) {
			t.Fatalf("Steps(%v, %v) = %v, want %v", x, steps, got, want)
		}
		greatest, e := step.Greatest(x, steps)
		if len(want) == 0 && (e != api.ErrNone || greatest != 0) {
			t.Fatalf("Greatest(%v, %v) = %d, %d, want ErrNone", x, steps, greatest, e)
		}
		if len(want) > 0 && (e != api.OK || greatest != want[len(want)-1]) {
			t.Fatalf("Greatest(%v, %v) = %d, %d, want the last of %v", x, steps, greatest, e, want)
		}
	}
}

// P1.8 at the limits: six copies of twelve holes, and all steps.
func TestStepsOfAFullSheet(t *testing.T) {
	r := newRandom()
	for _, off := range []int{0, 7, step.MaxOff} {
		x := step.Sheet{Off: off}
		for range step.MaxCopies {
			var positions []int
			for range step.MaxHoles {
				positions = append(positions, 300*(1+r.Intn(3000))+17)
			}
			x.Copies = append(x.Copies, positions)
		}
		want := stepsOf(x, span(1, step.MaxStep))
		if got := possibleSteps(t, x, span(1, step.MaxStep)); !slices.Equal(got, want) {
			t.Errorf("Steps(%v) = %v, want %v", x, got, want)
		}
	}
}

// P1.9 (with P1.5): there is a clash just if no offset is possible, and no clash has fewer positions.
func TestClashIsSmallest(t *testing.T) {
	r := newRandom()
	for range 1500 {
		size := 1 + r.Intn(24)
		x := scattered(r, max(1, size/2), 1, 9, 3*size)
		if r.Intn(2) == 0 { // large errors make large clashes
			x.Off = max(0, (size-1)/2-1-r.Intn(3))
		}
		offsets := offsetsOf(x.Copies[0], x.Off, size)
		clash, e := step.Clash(x, 0, size)
		if len(offsets) > 0 {
			if e != api.ErrNone || len(clash) != 0 {
				t.Fatalf("Clash(%v, 0, %d) = %v, %d, want ErrNone", x, size, clash, e)
			}
			continue
		}
		must(t, e)
		if fewest := fewestOf(x.Copies[0], x.Off, size); len(clash) != fewest {
			t.Fatalf("Clash(%v, 0, %d) = %v, want %d holes", x, size, clash, fewest)
		}
		if e := step.Verify(x, 0, size, clash); e != api.OK {
			t.Fatalf("Verify(%v, 0, %d, %v) = %d", x, size, clash, e)
		}
	}
}

// P1.9 (with P1.6): all clashes, and nothing else, are accepted.
func TestVerifyIsExact(t *testing.T) {
	r := newRandom()
	for range 300 {
		size := 1 + r.Intn(24)
		x := scattered(r, max(1, size/2), 1, 5, 3*size)
		positions := x.Copies[0]
		for set := 1; set < 1<<len(positions); set++ {
			holes := members(set, len(positions))
			want := api.ErrProof
			if isClash(positions, x.Off, size, holes) {
				want = api.OK
			}
			if e := step.Verify(x, 0, size, holes); e != want {
				t.Fatalf("Verify(%v, 0, %d, %v) = %d, want %d", x, size, holes, e, want)
			}
		}
	}
}

// P1.10: divisors of possible steps are possible.
func TestDivisors(t *testing.T) {
	r := newRandom()
	for range 100 {
		x, _ := measure(r, r.Intn(10), 60*(1+r.Intn(16)))
		steps := possibleSteps(t, x, span(1, step.MaxStep))
		for _, size := range steps {
			for divisor := 1; divisor <= size; divisor++ {
				if size%divisor == 0 && !slices.Contains(steps, divisor) {
					t.Fatalf("%v: the step %d is possible, but %d is not", x, size, divisor)
				}
			}
		}
	}
}

// P1.10: steps up to 2 Off + 1 are possible, with all of their offsets.
func TestSmallSteps(t *testing.T) {
	r := newRandom()
	for off := 0; off <= step.MaxOff; off++ {
		x := sheet(off, list(r.Intn(api.MaxTime+1), r.Intn(api.MaxTime+1), r.Intn(api.MaxTime+1)))
		for size := 1; size <= 2*off+1; size++ {
			if !slices.Equal(possibleSteps(t, x, span(size, size)), list(size)) {
				t.Fatalf("%v: the step %d is not possible", x, size)
			}
			offsets, e := step.Offsets(x, 0, size)
			must(t, e)
			if len(offsets) != size || offsets[0] != 0 || offsets[size-1] != size-1 {
				t.Fatalf("Offsets(%v, 0, %d) = %v", x, size, offsets)
			}
		}
		alone, e := step.Offsets(x, 0, 2*off+2)
		must(t, e)
		if len(alone) > 2*off+1 {
			t.Fatalf("Offsets(%v, 0, %d) = %v", x, 2*off+2, alone)
		}
	}
}

// P1.11: more copies, more positions, and a smaller error make no step possible.
func TestMoreKnowledge(t *testing.T) {
	r := newRandom()
	for range 300 {
		x := scattered(r, 8, 3, 4, 400)
		x.Off++
		before := possibleSteps(t, x, span(1, 100))
		sharper := cloned(x)
		sharper.Off -= 1 + r.Intn(x.Off)
		copied := cloned(x)
		copied.Copies = append(copied.Copies, list(r.Intn(400), r.Intn(400)))
		position := cloned(x)
		position.Copies[0] = append(position.Copies[0], r.Intn(400))
		for _, y := range []step.Sheet{sharper, copied, position} {
			if after := possibleSteps(t, y, span(1, 100)); !contained(after, before) {
				t.Fatalf("%v has the steps %v, %v has %v", x, before, y, after)
			}
		}
	}
}

// P1.12: the steps do not depend on where copies begin, nor on the order of copies and positions.
func TestShiftsAndOrder(t *testing.T) {
	r := newRandom()
	for range 300 {
		x := scattered(r, 8, 4, 4, 400)
		want := possibleSteps(t, x, span(1, 150))
		y := cloned(x)
		r.Shuffle(len(y.Copies), func(i, j int) { y.Copies[i], y.Copies[j] = y.Copies[j], y.Copies[i] })
		for _, positions := range y.Copies {
			r.Shuffle(len(positions), func(i, j int) { positions[i], positions[j] = positions[j], positions[i] })
			shift := r.Intn(api.MaxTime + 1 - slices.Max(positions))
			if r.Intn(4) == 0 {
				shift = -slices.Min(positions)
			}
			for i := range positions {
				positions[i] += shift
			}
		}
		if got := possibleSteps(t, y, span(1, 150)); !slices.Equal(got, want) {
			t.Fatalf("%v has the steps %v, %v has %v", x, want, y, got)
		}
	}
}

// P1.12: without errors, multiples of positions allow multiples of steps.
func TestMultiples(t *testing.T) {
	r := newRandom()
	for range 300 {
		m, common := 1+r.Intn(10), 1+r.Intn(12)
		x, y := sheet(0, nil), sheet(0, nil)
		for range 1 + r.Intn(4) {
			p := 3 + common*r.Intn(20)
			x.Copies[0] = append(x.Copies[0], p)
			y.Copies[0] = append(y.Copies[0], m*p)
		}
		multiples := possibleSteps(t, y, span(1, step.MaxStep))
		for _, size := range possibleSteps(t, x, span(1, 100)) {
			if !slices.Contains(multiples, m*size) {
				t.Fatalf("%v has the step %d, but %v does not have %d", x, size, y, m*size)
			}
		}
	}
}

// R4 and P1: arguments stay as they are, results share no memory with anything, and the same call gives the same result.
func TestCallsShareNothing(t *testing.T) {
	x, holes := exampleX(), list(0, 3)
	first, _ := step.Clash(x, 0, 8)
	free := slices.Clone(first)
	for range 3 {
		offsets, _ := step.Offsets(x, 0, 7)
		rows, _ := step.Rows(x, 0, 7, 3)
		steps, _ := step.Steps(x, span(5, 8))
		clash, _ := step.Clash(x, 0, 8)
		if !slices.Equal(offsets, list(2, 3, 4)) || !slices.Equal(steps, list(5, 7)) || !slices.Equal(clash, free) {
			t.Fatalf("offsets %v, steps %v, clash %v", offsets, steps, clash)
		}
		if !slices.Equal(rows, []api.Span{span(1, 1), span(3, 3), span(4, 4), span(6, 6)}) {
			t.Fatalf("rows %v", rows)
		}
		if e := step.Verify(x, 0, 8, holes); e != api.OK {
			t.Fatalf("Verify = %d", e)
		}
		offsets[0], rows[0], steps[0], clash[0], first[0] = 99, span(9, 9), 99, 99, 99
	}
	want := exampleX()
	if x.Off != want.Off || !slices.EqualFunc(x.Copies, want.Copies, slices.Equal) || !slices.Equal(holes, list(0, 3)) {
		t.Errorf("the arguments are %v, %v", x, holes)
	}
}
