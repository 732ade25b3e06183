package strip_test

import (
	"math"
	"slices"
	"testing"

	"pianola/api"
	"pianola/strip"
)

// tests returns so many tests without an error.
func tests(n int) []strip.Test { return make([]strip.Test, n) }

// records are records with their errors.
var records = []struct {
	name string
	r    strip.Record
	want api.Errno
}{
	{"example", example(), api.OK},
	{"no tests", record(2, 0), api.OK},
	{"one tube", record(1, 0, yes(0), no(), no(0), yes()), api.OK},
	{"as much as there can be", record(16, 2, tests(30)...), api.OK},
	{"all tubes in a strip", record(16, 2, yes(0, 1, 2, 3, 4, 5, 6, 7, 8, 9, 10, 11, 12, 13, 14, 15)), api.OK},
	{"answers that cannot be true together", record(2, 0, yes(0), no(0)), api.OK},
	{"N 0", record(0, 0), api.ErrRange},
	{"N below 0", record(-1, 0), api.ErrRange},
	{"N above MaxTubes", record(17, 0), api.ErrRange},
	{"Lies below 0", record(2, -1), api.ErrRange},
	{"Lies above MaxLies", record(2, 3), api.ErrRange},
	{"too many tests", record(2, 0, tests(31)...), api.ErrMany},
	{"too many tests, and N", record(0, 0, tests(31)...), api.ErrRange},
	{"too many tests, and Lies", record(2, 3, tests(31)...), api.ErrRange},
	{"too many tests with errors", record(2, 0, slices.Repeat([]strip.Test{yes(9)}, 31)...), api.ErrMany},
	{"an error after the greatest number of tests", record(2, 0, append(tests(29), yes(2))...), api.ErrNone},
	{"tube below 0", record(2, 0, yes(-1)), api.ErrNone},
	{"tube N", record(2, 0, yes(0, 2)), api.ErrNone},
	{"no such tube, for the answer false", record(2, 0, no(2)), api.ErrNone},
	{"no such tube of one, but of MaxTubes", record(1, 0, no(1)), api.ErrNone},
	{"no ascending order", record(2, 0, yes(1, 0)), api.ErrOrder},
	{"the same tube again", record(2, 0, yes(1, 1)), api.ErrOrder},
	{"the tube 0 again", record(2, 0, no(0, 0)), api.ErrOrder},
	{"order, and then no such tube", record(3, 0, yes(2, 1, 3)), api.ErrOrder},
	{"no such tube, and then order", record(3, 0, yes(0, 3, 1)), api.ErrNone},
	{"a number that is no tube and not in order", record(3, 0, yes(2, -1)), api.ErrNone},
	{"order in a test, and then no such tube", record(2, 0, yes(1, 0), yes(9)), api.ErrOrder},
	{"no such tube in a test, and then order", record(2, 0, yes(0), no(2, 0), yes(1, 0)), api.ErrNone},
	{"extremes", record(math.MaxInt, math.MinInt), api.ErrRange},
	{"extreme tubes", record(2, 0, yes(math.MinInt, math.MaxInt)), api.ErrNone},
	{"extreme tubes at the end", record(2, 0, yes(0, math.MaxInt)), api.ErrNone},
}

// P8.1: Check returns the error that is named first, of the first test that has one.
func TestCheck(t *testing.T) {
	for _, x := range records {
		if e := strip.Check(x.r); e != x.want {
			t.Errorf("%s: %d, want %d", x.name, e, x.want)
		}
	}
}

// P8.2 and P8.5: all calls return the error of Check first, whatever the strip is, and zero values.
func TestErrorsOfRecords(t *testing.T) {
	for _, x := range records {
		for _, l := range [][]int{nil, list(0), list(99), list(1, 0)} {
			if x.want == api.OK {
				continue
			}
			possible, e1 := strip.Possible(x.r)
			state, e2 := strip.State(x.r)
			next, left, e3 := strip.Next(x.r)
			most, e4 := strip.Verify(x.r, l)
			if e := [4]api.Errno{e1, e2, e3, e4}; e != [4]api.Errno{x.want, x.want, x.want, x.want} {
				t.Errorf("%s: errors %v, want %d", x.name, e, x.want)
			}
			if len(possible)+len(state)+len(next) > 0 || left != 0 || most != 0 {
				t.Errorf("%s: %v %v %v %d %d with an error", x.name, possible, state, next, left, most)
			}
		}
	}
}

// P8.2: Possible returns the tubes that are possible, and State the state.
func TestPossibleAndState(t *testing.T) {
	for _, x := range []struct {
		name     string
		r        strip.Record
		possible []int
		state    []int
	}{
		{"example", example(), list(0, 1, 2), list(1, 2)},
		{"example without lies", record(4, 0, yes(0, 1), yes(0, 2)), list(0), list(1)},
		{"example with two lies", record(4, 2, yes(0, 1), yes(0, 2)), list(0, 1, 2, 3), list(1, 2, 1)},
		{"no tests", record(3, 0), list(0, 1, 2), list(3)},
		{"no tests, one lie", record(3, 1), list(0, 1, 2), list(3, 0)},
		{"no tests, two lies", record(3, 2), list(0, 1, 2), list(3, 0, 0)},
		{"one tube", record(1, 0), list(0), list(1)},
		{"false", record(3, 0, no(0, 2)), list(1), list(1)},
		{"false, one lie", record(3, 1, no(0, 2)), list(0, 1, 2), list(1, 2)},
		{"none is possible", record(3, 0, yes(0), no(0)), nil, list(0)},
		{"none is possible, with a lie", record(2, 1, yes(), yes()), nil, list(0, 0)},
		{"all have a mistake", record(3, 1, yes(0), no(0)), list(0, 1, 2), list(0, 3)},
		{"no tube is in the strip, true", record(3, 0, yes()), nil, list(0)},
		{"no tube is in the strip, false", record(3, 0, no()), list(0, 1, 2), list(3)},
		{"all tubes are in the strip, true", record(3, 0, yes(0, 1, 2)), list(0, 1, 2), list(3)},
		{"all tubes are in the strip, false", record(3, 0, no(0, 1, 2)), nil, list(0)},
		{"a mistake that is certain", record(3, 1, yes(), yes(2)), list(2), list(0, 1)},
		{"the same strip again", record(3, 2, yes(1), yes(1), yes(1)), list(1), list(1, 0, 0)},
		{"two mistakes", record(3, 2, yes(1), yes(1)), list(0, 1, 2), list(1, 0, 2)},
		{"more mistakes than answers that are right", record(2, 2, no(0), no(0), no(1)), list(0, 1), list(0, 1, 1)},
	} {
		possible, e := strip.Possible(x.r)
		state, f := strip.State(x.r)
		if !slices.Equal(possible, x.possible) || !slices.Equal(state, x.state) || e != api.OK || f != api.OK {
			t.Errorf("%s: %v %d, %v %d, want %v, %v", x.name, possible, e, state, f, x.possible, x.state)
		}
	}
}

// P8.3 and P8.4: Weight, Bound and Needed return the errors of a state, and Weight that of the number of strips.
func TestErrorsOfStates(t *testing.T) {
	for _, x := range []struct {
		name  string
		state []int
		ahead int
		want  api.Errno
	}{
		{"nil", nil, 1, api.ErrShape},
		{"no number", list(), 1, api.ErrShape},
		{"no number, and no such number of strips", nil, -1, api.ErrShape},
		{"four numbers", list(1, 1, 1, 1), 1, api.ErrShape},
		{"four numbers, one below 0", list(1, -1, 1, 1), 1, api.ErrShape},
		{"below 0", list(-1), 1, api.ErrRange},
		{"below 0, and all together not", list(-1, 2), 1, api.ErrRange},
		{"below 0, at the end", list(0, 2, -1), 1, api.ErrRange},
		{"below 0, and the others above MaxTubes", list(17, -1), 1, api.ErrRange},
		{"above MaxTubes", list(17), 1, api.ErrRange},
		{"above MaxTubes together", list(16, 1), 1, api.ErrRange},
		{"above MaxTubes, all three", list(6, 6, 5), 1, api.ErrRange},
		{"a sum that does not fit", list(1<<62, 1<<62, 1<<62), 1, api.ErrRange},
		{"a sum that is 0 in the end", list(math.MinInt, math.MinInt), 1, api.ErrRange},
		{"another sum that is small in the end", list(math.MaxInt, math.MaxInt, 4), 1, api.ErrRange},
	} {
		weight, e := strip.Weight(x.state, x.ahead)
		bound, f := strip.Bound(x.state)
		needed, g := strip.Needed(x.state)
		if e != x.want || f != x.want || g != x.want || weight != 0 || bound != 0 || needed != 0 {
			t.Errorf("%s: %d %d, %d %d, %d %d, want %d", x.name, weight, e, bound, f, needed, g, x.want)
		}
	}
	for _, ahead := range []int{math.MinInt, -1, 41, math.MaxInt} {
		if weight, e := strip.Weight(list(2, 0), ahead); weight != 0 || e != api.ErrRange {
			t.Errorf("Weight for %d strips: %d, %d", ahead, weight, e)
		}
	}
}

// P8.3: Weight returns the weight.
func TestWeight(t *testing.T) {
	for _, x := range []struct {
		state []int
		ahead int
		want  int
	}{
		{list(2, 0), 2, 6},
		{list(2, 0), 3, 8},
		{list(2, 0), 0, 2},
		{list(0, 2), 3, 2},
		{list(8), 5, 8},
		{list(8), 0, 8},
		{list(0), 40, 0},
		{list(0, 0, 0), 7, 0},
		{list(3, 2, 1), 4, 3*11 + 2*5 + 1},
		{list(3, 2, 1), 0, 6},
		{list(3, 2, 1), 1, 3*2 + 2*2 + 1},
		{list(3, 2, 1), 2, 3*4 + 2*3 + 1},
		{list(1, 0, 0), 40, 1 + 40 + 780},
		{list(0, 1, 0), 40, 41},
		{list(16, 0, 0), 40, 16 * 821},
	} {
		if got, e := strip.Weight(x.state, x.ahead); got != x.want || e != api.OK {
			t.Errorf("Weight of %v for %d: %d, %d, want %d", x.state, x.ahead, got, e, x.want)
		}
	}
}

// P8.3, P8.4 and P8.8: Bound returns the bound, and Needed the needed strips, which are sometimes more.
func TestBoundAndNeeded(t *testing.T) {
	for _, x := range []struct {
		state  []int
		bound  int
		needed int
	}{
		{list(0), 0, 0}, {list(1), 0, 0}, {list(2), 1, 1}, {list(3), 2, 2}, {list(4), 2, 2}, {list(5), 3, 3},
		{list(8), 3, 3}, {list(9), 4, 4}, {list(16), 4, 4},
		{list(0, 0), 0, 0}, {list(1, 0), 0, 0}, {list(0, 1), 0, 0}, {list(0, 2), 1, 1}, {list(0, 16), 4, 4},
		{list(1, 1), 2, 2}, {list(1, 2), 3, 3}, {list(1, 4), 3, 3}, {list(1, 5), 4, 4}, {list(2, 0), 3, 3},
		{list(3, 0), 4, 5}, {list(4, 0), 5, 5}, {list(5, 0), 5, 6}, {list(8, 0), 6, 6}, {list(9, 0), 6, 7}, {list(16, 0), 7, 7},
		{list(0, 0, 0), 0, 0}, {list(1, 0, 0), 0, 0}, {list(0, 1, 0), 0, 0}, {list(0, 0, 1), 0, 0},
		{list(2, 0, 0), 5, 5}, {list(0, 2, 0), 3, 3}, {list(0, 3, 0), 4, 5}, {list(0, 0, 9), 4, 4}, {list(0, 1, 1), 2, 2},
	} {
		bound, e := strip.Bound(x.state)
		needed, f := strip.Needed(x.state)
		if bound != x.bound || needed != x.needed || e != api.OK || f != api.OK {
			t.Errorf("%v: bound %d, %d, needed %d, %d, want %d and %d", x.state, bound, e, needed, f, x.bound, x.needed)
		}
	}
}

// P8.5: Verify returns what is left at most after good strips, or its errors in their order.
func TestVerify(t *testing.T) {
	found := record(3, 1, yes(0), yes(0))
	for _, x := range []struct {
		name  string
		r     strip.Record
		strip []int
		left  int
		e     api.Errno
	}{
		{"example", example(), list(0), 2, api.OK},
		{"the tube without a mistake, and another one", example(), list(0, 1), 2, api.OK},
		{"with a tube that is not possible", example(), list(0, 3), 2, api.OK},
		{"the others", example(), list(1, 2), 2, api.OK},
		{"the others, with a tube that is not possible", example(), list(1, 2, 3), 2, api.OK},
		{"one of the others", example(), list(1), 2, api.OK},
		{"a tube that is not possible", example(), list(3), 0, api.ErrProof},
		{"no tube", example(), nil, 0, api.ErrProof},
		{"all tubes that are possible", example(), list(0, 1, 2), 0, api.ErrProof},
		{"all tubes", example(), list(0, 1, 2, 3), 0, api.ErrProof},
		{"half of 8", record(8, 0), list(0, 1, 2, 3), 2, api.OK},
		{"another half of 8", record(8, 0), list(0, 2, 5, 7), 2, api.OK},
		{"less than half of 8", record(8, 0), list(0, 1, 2), 0, api.ErrProof},
		{"less than half of 7", record(7, 0), list(0, 1, 2), 2, api.OK},
		{"2 with a lie", record(2, 1), list(0), 2, api.OK},
		{"2 with a lie, both", record(2, 1), list(0, 1), 0, api.ErrProof},
		{"3 with a lie", record(3, 1), list(0), 4, api.OK},
		{"3 with a lie, no tube", record(3, 1), list(), 0, api.ErrProof},
		{"3 with a lie, one answer", record(3, 1, yes(0)), list(0), 2, api.OK},
		{"found", found, list(0), 0, api.ErrShut},
		{"found, and a strip with an error", found, list(9), 0, api.ErrShut},
		{"one tube", record(1, 2), nil, 0, api.ErrShut},
		{"one tube, and mistakes", record(1, 2, no(0), no(0)), nil, 0, api.ErrShut},
		{"one tube, and more mistakes", record(1, 2, no(0), no(0), no(0)), nil, 0, api.ErrClash},
		{"cannot be true together", record(3, 0, yes()), list(0), 0, api.ErrClash},
		{"cannot be true together, and a strip with an error", record(3, 0, yes()), list(1, 0), 0, api.ErrClash},
		{"no such tube", record(3, 0), list(3), 0, api.ErrNone},
		{"tube below 0", record(3, 0), list(-1), 0, api.ErrNone},
		{"no ascending order", record(3, 0), list(1, 0), 0, api.ErrOrder},
		{"the same tube again", record(3, 0), list(1, 1), 0, api.ErrOrder},
		{"order, and then no such tube", record(3, 0), list(1, 1, 3), 0, api.ErrOrder},
		{"no such tube, and then order", record(3, 0), list(3, 1, 1), 0, api.ErrNone},
		{"no good strip, and no such tube", record(3, 0), list(0, 1, 2, 3), 0, api.ErrNone},
		{"extremes", record(3, 0), list(math.MinInt, math.MaxInt), 0, api.ErrNone},
		{"as many tests as there can be", record(4, 2, tests(30)...), list(0, 1), 7, api.OK},
	} {
		if left, e := strip.Verify(x.r, x.strip); left != x.left || e != x.e {
			t.Errorf("%s: %d, %d, want %d, %d", x.name, left, e, x.left, x.e)
		}
	}
}

// P8.5: Next returns a good strip of tubes in ascending order, and what is left after it, or its errors.
func TestNext(t *testing.T) {
	for _, x := range []struct {
		name string
		r    strip.Record
		left int
		e    api.Errno
	}{
		{"example", example(), 2, api.OK},
		{"8", record(8, 0), 2, api.OK},
		{"9", record(9, 0), 3, api.OK},
		{"16", record(16, 0), 3, api.OK},
		{"2 with a lie", record(2, 1), 2, api.OK},
		{"3 with a lie", record(3, 1), 4, api.OK},
		{"8 with a lie", record(8, 1), 5, api.OK},
		{"2 with two lies", record(2, 2), 4, api.OK},
		{"two that are far apart", record(16, 0, yes(3, 14)), 0, api.OK},
		{"two with a mistake, none without", record(2, 1, yes(0), no(0)), 0, api.OK},
		{"as many tests as there can be", record(2, 0, tests(30)...), 0, api.OK},
		{"found", record(3, 1, yes(0), yes(0)), 0, api.ErrShut},
		{"found by mistakes", record(3, 1, yes(), yes(2)), 0, api.ErrShut},
		{"one tube", record(1, 0), 0, api.ErrShut},
		{"cannot be true together", record(3, 0, yes()), 0, api.ErrClash},
		{"one tube, cannot be true together", record(1, 0, no(0)), 0, api.ErrClash},
	} {
		l, left, e := strip.Next(x.r)
		if left != x.left || e != x.e {
			t.Errorf("%s: %v, %d, %d, want %d, %d", x.name, l, left, e, x.left, x.e)
		}
		if x.e != api.OK {
			if len(l) > 0 {
				t.Errorf("%s: %v with an error", x.name, l)
			}
			continue
		}
		if n, e := strip.Verify(x.r, l); n != left || e != api.OK {
			t.Errorf("%s: Verify of %v: %d, %d", x.name, l, n, e)
		}
	}
}

// P8.6: Table returns the greatest number of tubes, up to MaxTubes, or ErrRange.
func TestTable(t *testing.T) {
	for lies, row := range [][]int{
		{1, 2, 4, 8, 16, 16, 16},
		{1, 1, 1, 2, 2, 4, 8, 16, 16},
		{1, 1, 1, 1, 1, 2, 2, 2, 4, 8, 16, 16},
	} {
		for strips := range strip.MaxTests + 1 {
			want := row[min(strips, len(row)-1)]
			if got, e := strip.Table(lies, strips); got != want || e != api.OK {
				t.Errorf("Table(%d, %d) = %d, %d, want %d", lies, strips, got, e, want)
			}
		}
	}
	for _, x := range [][2]int{{-1, 0}, {3, 0}, {0, -1}, {0, 31}, {-1, -1}, {math.MinInt, 5}, {math.MaxInt, 5}, {1, math.MinInt}, {1, math.MaxInt}} {
		if got, e := strip.Table(x[0], x[1]); got != 0 || e != api.ErrRange {
			t.Errorf("Table(%d, %d) = %d, %d, want %d", x[0], x[1], got, e, api.ErrRange)
		}
	}
}
