package align_test

import (
	"math"
	"slices"
	"testing"

	"pianola/align"
	"pianola/api"
)

// twoRolls are rolls with their errors.
var twoRolls = []struct {
	name string
	a, b align.Roll
	want api.Errno
}{
	{"example", exampleA(), exampleB(), api.OK},
	{"least and greatest numbers", roll(1, 0, 0), roll(88, 1000, 1000), api.OK},
	{"as many events as there can be", same(30), same(30), api.OK},
	{"no first roll", nil, exampleB(), api.ErrEmpty},
	{"empty first roll", align.Roll{}, exampleB(), api.ErrEmpty},
	{"no second roll", exampleA(), nil, api.ErrEmpty},
	{"empty second roll", exampleA(), align.Roll{}, api.ErrEmpty},
	{"no rolls", nil, nil, api.ErrEmpty},
	{"too many events in the first roll", same(31), exampleB(), api.ErrMany},
	{"too many events in the second roll", exampleA(), same(31), api.ErrMany},
	{"too many events, all with errors", make(align.Roll, 31), exampleB(), api.ErrMany},
	{"no event, and then too many", nil, same(31), api.ErrEmpty},
	{"too many events, and then none", same(31), nil, api.ErrMany},
	{"a wrong event, and then none", roll(0, 0, 0), nil, api.ErrRange},
	{"a wrong event, and then too many", roll(0, 0, 0), same(31), api.ErrRange},
	{"Key 0", roll(0, 5, 5), exampleB(), api.ErrRange},
	{"Key below 0", roll(-1, 5, 5), exampleB(), api.ErrRange},
	{"Key above MaxKeys", roll(89, 5, 5), exampleB(), api.ErrRange},
	{"Loud below 0", roll(5, -1, 5), exampleB(), api.ErrRange},
	{"Loud above MaxLoud", roll(5, 1001, 5), exampleB(), api.ErrRange},
	{"Gap below 0", roll(5, 5, -1), exampleB(), api.ErrRange},
	{"Gap above MaxGap", roll(5, 5, 1001), exampleB(), api.ErrRange},
	{"the last event of the first roll", roll(5, 5, 5, 6, 6, 6, 7, 7, 1001), exampleB(), api.ErrRange},
	{"Key of the second roll", exampleA(), roll(5, 5, 5, 89, 5, 5), api.ErrRange},
	{"Loud of the second roll", exampleA(), roll(5, 1001, 5, 5, 5, 5), api.ErrRange},
	{"Gap of the second roll", exampleA(), roll(5, 5, 5, 5, 5, -1), api.ErrRange},
	{"extremes", roll(math.MaxInt, math.MinInt, math.MinInt), exampleB(), api.ErrRange},
	{"other extremes", exampleA(), roll(1, math.MaxInt, math.MaxInt), api.ErrRange},
}

// P7.1: Check returns the error that is named first, of the first roll before the second one.
func TestCheck(t *testing.T) {
	for _, x := range twoRolls {
		if e := align.Check(x.a, x.b); e != x.want {
			t.Errorf("%s: %d, want %d", x.name, e, x.want)
		}
	}
}

// P7.1 to P7.5: all calls return the error of Check first, whatever the other arguments are, and zero values.
func TestErrorsOfRolls(t *testing.T) {
	for _, x := range twoRolls {
		for _, wrong := range []bool{false, true} {
			if x.want == api.OK {
				continue
			}
			p, list, height := align.Pair{}, pairs(0, 0), 0
			if wrong {
				p, list, height = align.Pair{First: -1}, nil, -1
			}
			var numbers [4]int
			var lists [2][]align.Pair
			var errors [7]api.Errno
			numbers[0], errors[0] = align.Distance(x.a, x.b, p)
			numbers[1], errors[1] = align.Gap(x.a, x.b)
			lists[0], errors[2] = align.Walk(x.a, x.b)
			numbers[2], errors[3] = align.Height(x.a, x.b, list)
			lists[1], errors[4] = align.Barrier(x.a, x.b, height)
			errors[5] = align.Verify(x.a, x.b, height, list)
			numbers[3], errors[6] = align.Walks(x.a, x.b, height)
			if errors != [7]api.Errno{x.want, x.want, x.want, x.want, x.want, x.want, x.want} {
				t.Errorf("%s: errors %v, want %v", x.name, errors, x.want)
			}
			if numbers != [4]int{} || len(lists[0])+len(lists[1]) > 0 {
				t.Errorf("%s: %v %v with an error", x.name, numbers, lists)
			}
		}
	}
}

// P7.1: Distance returns the distance of a pair, or ErrNone.
func TestDistance(t *testing.T) {
	for _, x := range []struct {
		name string
		a, b align.Roll
		p    align.Pair
		want int
		e    api.Errno
	}{
		{"0, 0 of the example", exampleA(), exampleB(), align.Pair{}, 2, api.OK},
		{"1, 2 of the example", exampleA(), exampleB(), align.Pair{First: 1, Second: 2}, 1, api.OK},
		{"1, 3 of the example", exampleA(), exampleB(), align.Pair{First: 1, Second: 3}, 1000000, api.OK},
		{"the last ones", exampleA(), exampleB(), align.Pair{First: 2, Second: 3}, 4, api.OK},
		{"the same event", roll(5, 6, 7), roll(5, 6, 7), align.Pair{}, 0, api.OK},
		{"louder", roll(5, 9, 7), roll(5, 6, 7), align.Pair{}, 3, api.OK},
		{"softer", roll(5, 6, 7), roll(5, 9, 7), align.Pair{}, 3, api.OK},
		{"later", roll(5, 6, 9), roll(5, 6, 7), align.Pair{}, 2, api.OK},
		{"earlier", roll(5, 6, 7), roll(5, 6, 9), align.Pair{}, 2, api.OK},
		{"louder and earlier", roll(5, 9, 7), roll(5, 6, 9), align.Pair{}, 5, api.OK},
		{"greatest of one key", roll(5, 1000, 0), roll(5, 0, 1000), align.Pair{}, 2000, api.OK},
		{"other keys alone", roll(5, 6, 7), roll(4, 6, 7), align.Pair{}, 1000000, api.OK},
		{"other keys, and all else", roll(5, 0, 1000), roll(4, 1000, 0), align.Pair{}, 1000000, api.OK},
		{"First below 0", exampleA(), exampleB(), align.Pair{First: -1}, 0, api.ErrNone},
		{"no such First", exampleA(), exampleB(), align.Pair{First: 3}, 0, api.ErrNone},
		{"Second below 0", exampleA(), exampleB(), align.Pair{Second: -1}, 0, api.ErrNone},
		{"no such Second", exampleA(), exampleB(), align.Pair{Second: 4}, 0, api.ErrNone},
		{"extremes", exampleA(), exampleB(), align.Pair{First: math.MinInt, Second: math.MaxInt}, 0, api.ErrNone},
	} {
		if got, e := align.Distance(x.a, x.b, x.p); got != x.want || e != x.e {
			t.Errorf("%s: %d, %d, want %d, %d", x.name, got, e, x.want, x.e)
		}
	}
}

// gaps are rolls with their gaps and the first walks that have them.
var gaps = []struct {
	name string
	a, b align.Roll
	want int
	walk []align.Pair
}{
	{"A and B", exampleA(), exampleB(), 4, pairs(0, 0, 1, 1, 1, 2, 2, 3)},
	{"B and A", exampleB(), exampleA(), 4, pairs(0, 0, 1, 1, 2, 1, 3, 2)},
	{"A and C", exampleA(), exampleC(), 1000000, pairs(0, 0, 1, 1, 2, 1)},
	{"A and A", exampleA(), exampleA(), 0, pairs(0, 0, 1, 1, 2, 2)},
	{"one event each", loud(5), loud(9), 4, pairs(0, 0)},
	{"one event and many", loud(5), loud(3, 9, 6), 4, pairs(0, 0, 0, 1, 0, 2)},
	{"many and one event", loud(3, 9, 6), loud(5), 4, pairs(0, 0, 1, 0, 2, 0)},
	{"the first events decide", loud(9, 1, 1), loud(0, 1, 1), 9, pairs(0, 0, 1, 1, 2, 2)},
	{"the last events decide", loud(1, 1, 9), loud(1, 1, 0), 9, pairs(0, 0, 1, 1, 2, 2)},
	{"both ends are the same, the middle is not", loud(1, 5, 1), loud(1, 1), 4, pairs(0, 0, 1, 1, 2, 1)},
	{"a move in the first roll before one in the second one", loud(5, 0, 5), loud(5, 10, 5), 5, pairs(0, 0, 1, 0, 2, 1, 2, 2)},
	{"a way that looks well and ends nowhere", loud(10, 10, 5, 15), loud(10, 14, 20), 5, pairs(0, 0, 1, 0, 2, 0, 3, 1, 3, 2)},
	{"such a way, turned over", loud(10, 14, 20), loud(10, 10, 5, 15), 5, pairs(0, 0, 0, 1, 0, 2, 1, 3, 2, 3)},
	{"repeats", loud(0, 0, 0, 9), loud(0, 9, 9), 0, pairs(0, 0, 1, 0, 2, 0, 3, 1, 3, 2)},
	{"any two are near enough", loud(1, 2, 3, 4), loud(4, 3, 2, 1), 3, pairs(0, 0, 1, 1, 2, 2, 3, 3)},
	{"a gap between events counts, too", roll(5, 1, 0, 5, 1, 9), roll(5, 1, 0, 5, 1, 2), 7, pairs(0, 0, 1, 1)},
	{"other keys everywhere", roll(1, 5, 5, 1, 5, 5), roll(2, 5, 5), 1000000, pairs(0, 0, 1, 0)},
}

// P7.2: Gap returns the gap, and Walk the first walk that has it.
func TestGapAndWalk(t *testing.T) {
	for _, x := range gaps {
		if gap, e := align.Gap(x.a, x.b); gap != x.want || e != api.OK {
			t.Errorf("%s: Gap %d, %d, want %d", x.name, gap, e, x.want)
		}
		walk, e := align.Walk(x.a, x.b)
		if !slices.Equal(walk, x.walk) || e != api.OK {
			t.Errorf("%s: Walk %v, %d, want %v", x.name, walk, e, x.walk)
		}
		if height, e := align.Height(x.a, x.b, walk); height != x.want || e != api.OK {
			t.Errorf("%s: Height %d, %d, want %d", x.name, height, e, x.want)
		}
	}
}

// P7.3: Height returns the height of a walk, or its errors in their order.
func TestHeight(t *testing.T) {
	for _, x := range []struct {
		name string
		walk []align.Pair
		want int
		e    api.Errno
	}{
		{"best", pairs(0, 0, 1, 1, 1, 2, 2, 3), 4, api.OK},
		{"example", pairs(0, 0, 1, 1, 2, 2, 2, 3), 1000000, api.OK},
		{"one step after the other", pairs(0, 0, 1, 0, 2, 0, 2, 1, 2, 2, 2, 3), 1000000, api.OK},
		{"nil", nil, 0, api.ErrEmpty},
		{"no pair", pairs(), 0, api.ErrEmpty},
		{"First below 0", pairs(-1, 0), 0, api.ErrNone},
		{"Second below 0", pairs(0, -1), 0, api.ErrNone},
		{"no such First", pairs(3, 0), 0, api.ErrNone},
		{"no such Second", pairs(0, 0, 0, 4), 0, api.ErrNone},
		{"beyond the end", pairs(0, 0, 1, 1, 1, 2, 2, 3, 2, 4), 0, api.ErrNone},
		{"another beginning", pairs(1, 0, 1, 1, 1, 2, 2, 3), 0, api.ErrOrder},
		{"a later beginning", pairs(0, 1, 1, 2, 2, 3), 0, api.ErrOrder},
		{"the end alone", pairs(2, 3), 0, api.ErrOrder},
		{"another beginning, and then no pair", pairs(1, 1, 9, 9), 0, api.ErrOrder},
		{"two events of the first roll at once", pairs(0, 0, 2, 1, 2, 2, 2, 3), 0, api.ErrOrder},
		{"two events of the second roll at once", pairs(0, 0, 1, 2, 2, 3), 0, api.ErrOrder},
		{"the same pair again", pairs(0, 0, 0, 0, 1, 1, 1, 2, 2, 3), 0, api.ErrOrder},
		{"the last pair again", pairs(0, 0, 1, 1, 1, 2, 2, 3, 2, 3), 0, api.ErrOrder},
		{"backward in the first roll", pairs(0, 0, 1, 0, 0, 0), 0, api.ErrOrder},
		{"backward in the second roll", pairs(0, 0, 1, 1, 2, 0), 0, api.ErrOrder},
		{"backward in both rolls", pairs(0, 0, 1, 1, 0, 0), 0, api.ErrOrder},
		{"no move, and then no pair", pairs(0, 0, 2, 2, 9, 9), 0, api.ErrOrder},
		{"no pair, and then no move", pairs(0, 0, 9, 9, 0, 0), 0, api.ErrNone},
		{"too short", pairs(0, 0, 1, 1, 1, 2), 0, api.ErrGap},
		{"too short in the second roll", pairs(0, 0, 1, 1, 2, 2), 0, api.ErrGap},
		{"the beginning alone", pairs(0, 0), 0, api.ErrGap},
		{"no move, and too short", pairs(0, 0, 2, 2), 0, api.ErrOrder},
		{"extremes", pairs(0, 0, math.MaxInt, math.MinInt), 0, api.ErrNone},
	} {
		if got, e := align.Height(exampleA(), exampleB(), x.walk); got != x.want || e != x.e {
			t.Errorf("%s: %d, %d, want %d, %d", x.name, got, e, x.want, x.e)
		}
	}
	if got, e := align.Height(loud(4), loud(9), pairs(0, 0)); got != 5 || e != api.OK {
		t.Errorf("one pair: %d, %d", got, e)
	}
	if got, e := align.Height(loud(0, 0, 0), loud(7, 0, 0), pairs(0, 0, 1, 1, 2, 2)); got != 7 || e != api.OK {
		t.Errorf("the first pair decides: %d, %d", got, e)
	}
}

// P7.4 and P7.6: Barrier returns a barrier for each height below the gap, and ErrNone for all others.
func TestBarrier(t *testing.T) {
	for _, x := range gaps {
		for _, height := range []int{math.MinInt, -1, 0, 1, x.want / 2, x.want - 1, x.want, x.want + 1, 999999, 1000000, 1000001, math.MaxInt} {
			barrier, e := align.Barrier(x.a, x.b, height)
			if height >= x.want {
				if len(barrier) > 0 || e != api.ErrNone {
					t.Errorf("%s, %d: %v, %d, want %d", x.name, height, barrier, e, api.ErrNone)
				}
				continue
			}
			if e != api.OK || errorOfBarrier(x.a, x.b, height, barrier) != api.OK {
				t.Errorf("%s, %d: %v, %d", x.name, height, barrier, e)
			}
			if e := align.Verify(x.a, x.b, height, barrier); e != api.OK {
				t.Errorf("%s, %d: %v is not accepted: %d", x.name, height, barrier, e)
			}
			if e := align.Verify(x.a, x.b, x.want, barrier); e != api.ErrProof {
				t.Errorf("%s: %v is accepted for the gap: %d", x.name, barrier, e)
			}
		}
	}
}

// P7.4: Verify accepts barriers, and returns its errors in their order.
func TestVerify(t *testing.T) {
	// All distances of ones and twos are above any height of rolls with the same key.
	ones, twos := roll(1, 0, 0, 1, 0, 0, 1, 0, 0, 1, 0, 0), roll(2, 0, 0, 2, 0, 0, 2, 0, 0, 2, 0, 0, 2, 0, 0)
	for _, x := range []struct {
		name    string
		a, b    align.Roll
		height  int
		barrier []align.Pair
		want    api.Errno
	}{
		{"example", exampleA(), exampleB(), 3, pairs(2, 3), api.OK},
		{"example, for more", exampleA(), exampleB(), 4, pairs(2, 3), api.ErrProof},
		{"example, for less than 0", exampleA(), exampleB(), math.MinInt, pairs(2, 3), api.OK},
		{"example, for the greatest number", exampleA(), exampleB(), math.MaxInt, pairs(2, 3), api.ErrProof},
		{"A and C", exampleA(), exampleC(), 999999, pairs(1, 1, 1, 0), api.OK},
		{"A and C, for the gap", exampleA(), exampleC(), 1000000, pairs(1, 1, 1, 0), api.ErrProof},
		{"A and C in the wrong direction", exampleA(), exampleC(), 2, pairs(1, 0, 1, 1), api.ErrOrder},
		{"A and C with a step between", exampleA(), exampleC(), 2, pairs(0, 1, 1, 0), api.ErrGap},
		{"A and C, from above", exampleA(), exampleC(), 2, pairs(0, 1, 1, 1, 1, 0), api.OK},
		{"distance 0 above a height below 0", loud(5), loud(5), -1, pairs(0, 0), api.OK},
		{"distance 0", loud(5), loud(5), 0, pairs(0, 0), api.ErrProof},
		{"nil", ones, twos, 0, nil, api.ErrEmpty},
		{"no pair", ones, twos, 0, pairs(), api.ErrEmpty},
		{"no pair, and any height", ones, twos, math.MaxInt, pairs(), api.ErrEmpty},
		{"first and last pair in one, at the beginning", ones, twos, 9, pairs(0, 0), api.OK},
		{"first and last pair in one, at the end", ones, twos, 9, pairs(3, 4), api.OK},
		{"a first pair alone, at the corner", ones, twos, 9, pairs(0, 4), api.ErrOrder},
		{"a last pair alone, at the corner", ones, twos, 9, pairs(3, 0), api.ErrOrder},
		{"a first pair alone", ones, twos, 9, pairs(0, 2), api.ErrOrder},
		{"another first pair alone", ones, twos, 9, pairs(2, 4), api.ErrOrder},
		{"a last pair alone, at the last event", ones, twos, 9, pairs(3, 2), api.ErrOrder},
		{"a last pair alone, at the event 0", ones, twos, 9, pairs(2, 0), api.ErrOrder},
		{"downward", ones, twos, 9, pairs(0, 2, 1, 2, 2, 2, 3, 2), api.OK},
		{"to the left", ones, twos, 9, pairs(2, 4, 2, 3, 2, 2, 2, 1, 2, 0), api.OK},
		{"downward and to the left, by steps", ones, twos, 9, pairs(0, 2, 0, 1, 1, 1, 1, 0), api.OK},
		{"downward and to the left at once", ones, twos, 9, pairs(0, 1, 1, 0), api.ErrGap},
		{"downward and to the right", ones, twos, 9, pairs(0, 1, 1, 2, 2, 3, 3, 4), api.OK},
		{"downward and far to the right", ones, twos, 9, pairs(0, 0, 1, 4, 2, 4, 3, 4), api.OK},
		{"upward and to the left", ones, twos, 9, pairs(3, 4, 2, 3, 1, 2, 0, 1, 0, 0), api.OK},
		{"far upward and to the left", ones, twos, 9, pairs(3, 4, 0, 3, 0, 2, 0, 1, 0, 0), api.OK},
		{"far upward and far to the right", ones, twos, 9, pairs(3, 0, 0, 4, 1, 4, 2, 4, 3, 4), api.ErrOrder},
		{"far upward and far to the right, from above", ones, twos, 9, pairs(0, 1, 1, 1, 2, 1, 0, 4, 1, 4, 2, 4, 3, 4), api.OK},
		{"the same pair again", ones, twos, 9, pairs(0, 0, 0, 0), api.OK},
		{"two downward", ones, twos, 9, pairs(0, 2, 2, 2, 3, 2), api.ErrGap},
		{"two downward, to the right", ones, twos, 9, pairs(0, 2, 2, 3, 3, 3), api.ErrGap},
		{"two to the left", ones, twos, 9, pairs(2, 4, 2, 2, 2, 1, 2, 0), api.ErrGap},
		{"two to the left, upward", ones, twos, 9, pairs(2, 4, 1, 2, 1, 1, 1, 0), api.ErrGap},
		{"a first pair within", ones, twos, 9, pairs(1, 2, 2, 2, 3, 2), api.ErrOrder},
		{"a last pair within", ones, twos, 9, pairs(0, 2, 1, 2, 2, 2), api.ErrOrder},
		{"First below 0", ones, twos, 9, pairs(-1, 0), api.ErrNone},
		{"Second below 0", ones, twos, 9, pairs(0, -1), api.ErrNone},
		{"no such First", ones, twos, 9, pairs(4, 0), api.ErrNone},
		{"no such Second", ones, twos, 9, pairs(0, 5), api.ErrNone},
		{"no such pair after a right one", ones, twos, 9, pairs(0, 0, 0, -1), api.ErrNone},
		{"no such pair before a gap", ones, twos, 9, pairs(0, 0, 9, 9), api.ErrNone},
		{"a gap before no such pair", ones, twos, 9, pairs(0, 4, 0, 0, 9, 9), api.ErrGap},
		{"a gap before a low pair", loud(9, 0, 0), loud(0, 0, 0), 5, pairs(0, 2, 2, 2), api.ErrGap},
		{"a low pair before a gap", loud(9, 0, 0), loud(0, 0, 0), 5, pairs(1, 2, 2, 0), api.ErrProof},
		{"a low pair before no such pair", loud(9, 0, 0), loud(0, 0, 0), 5, pairs(1, 2, 9, 9), api.ErrProof},
		{"a low pair before the order", loud(9, 0, 0), loud(0, 0, 0), 5, pairs(1, 1), api.ErrProof},
		{"a gap before the order", ones, twos, 9, pairs(1, 1, 3, 3), api.ErrGap},
		{"extremes", ones, twos, 9, pairs(0, 0, math.MinInt, math.MaxInt), api.ErrNone},
		{"other extremes", ones, twos, 9, pairs(math.MaxInt, math.MinInt), api.ErrNone},
	} {
		if e := align.Verify(x.a, x.b, x.height, x.barrier); e != x.want {
			t.Errorf("%s: %d, want %d", x.name, e, x.want)
		}
	}
}

// P7.5: Walks returns how many walks have at most a height, up to api.Never, or ErrRange.
func TestWalks(t *testing.T) {
	for _, x := range []struct {
		name   string
		a, b   align.Roll
		height int
		want   int
		e      api.Errno
	}{
		{"A and B, the gap", exampleA(), exampleB(), 4, 1, api.OK},
		{"A and B, less", exampleA(), exampleB(), 3, 0, api.OK},
		{"A and B, a little less than all", exampleA(), exampleB(), 999999, 1, api.OK},
		{"A and B, all", exampleA(), exampleB(), 1000000, 25, api.OK},
		{"A and B, more than all", exampleA(), exampleB(), math.MaxInt, 25, api.OK},
		{"one pair", loud(5), loud(9), 4, 1, api.OK},
		{"one pair, less", loud(5), loud(9), 3, 0, api.OK},
		{"one event and many", same(1), same(30), 0, 1, api.OK},
		{"many and one event", same(30), same(1), 0, 1, api.OK},
		{"2 and 2", same(2), same(2), 0, 3, api.OK},
		{"2 and 30", same(2), same(30), 0, 59, api.OK},
		{"3 and 3", same(3), same(3), 0, 13, api.OK},
		{"30 and 3", same(30), same(3), 0, 1741, api.OK},
		{"the middle is high", loud(5, 0, 5), loud(5, 10, 5), 5, 4, api.OK},
		{"22 and 22", same(22), same(22), 0, 1482376214227923, api.OK},
		{"23 and 23", same(23), same(23), 0, api.Never, api.OK},
		{"30 and 30", same(30), same(30), 0, api.Never, api.OK},
		{"below 0", exampleA(), exampleB(), -1, 0, api.ErrRange},
		{"least number", exampleA(), exampleB(), math.MinInt, 0, api.ErrRange},
	} {
		if got, e := align.Walks(x.a, x.b, x.height); got != x.want || e != x.e {
			t.Errorf("%s: %d, %d, want %d, %d", x.name, got, e, x.want, x.e)
		}
	}
}
