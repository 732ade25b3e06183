package spool_test

import (
	"math"
	"slices"
	"testing"

	"pianola/api"
	"pianola/spool"
)

// spools are spools with their errors.
var spools = []struct {
	name string
	s    spool.Spool
	want api.Errno
}{
	{"example", example(), api.OK},
	{"least numbers", reel(1, 1, 0, 0), api.OK},
	{"greatest numbers", largest(), api.OK},
	{"all growths", reel(100000, 1, 0, 1000), api.OK},
	{"as many ticks as paper", reel(7, 7, 2, 2), api.OK},
	{"nothing", spool.Spool{}, api.ErrRange},
	{"no core", reel(0, 1, 0, 0), api.ErrRange},
	{"no core and no ticks", reel(0, 0, 0, 0), api.ErrRange},
	{"core below 0", reel(-5, 1, 0, 0), api.ErrRange},
	{"core above MaxCore", reel(100001, 1, 0, 0), api.ErrRange},
	{"no ticks", reel(10, 0, 0, 0), api.ErrRange},
	{"ticks below 0", reel(10, -1, 0, 0), api.ErrRange},
	{"ticks above core", reel(10, 11, 0, 0), api.ErrRange},
	{"ticks above MaxCore", reel(100000, 100001, 0, 0), api.ErrRange},
	{"growth below 0", reel(10, 5, -1, 3), api.ErrRange},
	{"growths below 0", reel(10, 5, -3, -1), api.ErrRange},
	{"growth above MaxGrow", reel(10, 5, 3, 1001), api.ErrRange},
	{"growths above MaxGrow", reel(10, 5, 1001, 1002), api.ErrRange},
	{"span not valid", reel(10, 5, 3, 2), api.ErrRange},
	{"extreme core", reel(math.MaxInt, 1, 0, 0), api.ErrRange},
	{"extreme ticks", reel(10, math.MinInt, 0, 0), api.ErrRange},
	{"extreme growths", reel(10, 5, math.MinInt, math.MaxInt), api.ErrRange},
}

// P5.1: Check returns ErrRange if a number is not as stated.
func TestCheck(t *testing.T) {
	for _, x := range spools {
		if e := spool.Check(x.s); e != x.want {
			t.Errorf("%s: %d, want %d", x.name, e, x.want)
		}
	}
}

// results are the results of all calls for a spool.
type results struct {
	spans  [5]api.Span // of Length, Place, Arrival, Drift and Growths
	lists  [4][]int    // of Cut, Play, Govern and Clash
	errors [10]api.Errno
}

// resultsOf returns the results of all calls for a spool, with arguments that have no error of their own, or with such as have every one.
func resultsOf(s spool.Spool, wrong bool) results {
	growth, number, off, clash := s.Grow.Lo, 1, 0, list(0)
	notes, l := list(1, 0), measures(0, 0)
	if wrong {
		growth, number, off, clash = s.Grow.Hi+1, -1, -1, nil
		notes, l = slices.Repeat(list(-1), 101), make([]spool.Measure, 51)
	}
	var x results
	x.spans[0], x.errors[0] = spool.Length(s, number)
	x.spans[1], x.errors[1] = spool.Place(s, number)
	x.spans[2], x.errors[2] = spool.Arrival(s, number)
	x.spans[3], x.errors[3] = spool.Drift(s, growth, number)
	x.spans[4], x.errors[4] = spool.Growths(s, off, l)
	x.lists[0], x.errors[5] = spool.Cut(s, growth, notes)
	x.lists[1], x.errors[6] = spool.Play(s, growth, notes)
	x.lists[2], x.errors[7] = spool.Govern(s, growth, number)
	x.lists[3], x.errors[8] = spool.Clash(s, off, l)
	x.errors[9] = spool.Verify(s, off, l, clash)
	return x
}

// P5.1 to P5.7: all calls return the error of Check first, and zero values; without it, they return other errors, or none.
func TestErrorsOfSpools(t *testing.T) {
	for _, x := range spools {
		for _, wrong := range []bool{false, true} {
			got := resultsOf(x.s, wrong)
			var want [10]api.Errno
			switch {
			case x.want != api.OK:
				for i := range want {
					want[i] = x.want
				}
			case wrong:
				for i := range want {
					want[i] = api.ErrRange
				}
			default:
				want[8], want[9] = api.ErrNone, api.ErrProof
			}
			if got.errors != want {
				t.Errorf("%s: errors %v, want %v", x.name, got.errors, want)
			}
			if (x.want != api.OK || wrong) && (got.spans != [5]api.Span{} || slices.ContainsFunc(got.lists[:], func(l []int) bool { return len(l) != 0 })) {
				t.Errorf("%s: %v %v with an error", x.name, got.spans, got.lists)
			}
		}
	}
}

// answer is a call that returns a span, with what it has to return.
type answer struct {
	name   string
	s      spool.Spool
	number int
	want   api.Span
	e      api.Errno
}

// ask compares calls with what they have to return.
func ask(t *testing.T, call func(spool.Spool, int) (api.Span, api.Errno), answers []answer) {
	t.Helper()
	for _, x := range answers {
		if got, e := call(x.s, x.number); got != x.want || e != x.e {
			t.Errorf("%s: %v, %d, want %v, %d", x.name, got, e, x.want, x.e)
		}
	}
}

// P5.1: Length returns the span of the lengths of so many turns.
func TestLength(t *testing.T) {
	none := api.Span{}
	ask(t, spool.Length, []answer{
		{"no turn", example(), 0, span(0, 0), api.OK},
		{"1 turn does not depend on the growth", example(), 1, span(100, 100), api.OK},
		{"2 turns", example(), 2, span(203, 205), api.OK},
		{"3 turns", example(), 3, span(309, 315), api.OK},
		{"4 turns", example(), 4, span(418, 430), api.OK},
		{"1000 turns", example(), 1000, span(1598500, 2597500), api.OK},
		{"no growth", reel(7, 3, 0, 0), 1000, span(7000, 7000), api.OK},
		{"from no growth on", reel(7, 3, 0, 2), 3, span(21, 27), api.OK},
		{"least numbers", reel(1, 1, 0, 0), 1000, span(1000, 1000), api.OK},
		{"greatest numbers", largest(), 1000, span(599500000, 599500000), api.OK},
		{"all growths", reel(100000, 1, 0, 1000), 1000, span(100000000, 599500000), api.OK},
		{"turns below 0", example(), -1, none, api.ErrRange},
		{"turns above MaxTurns", example(), 1001, none, api.ErrRange},
		{"least int", example(), math.MinInt, none, api.ErrRange},
		{"greatest int", example(), math.MaxInt, none, api.ErrRange},
	})
}

// P5.1: Place returns the span of the places at a time.
func TestPlace(t *testing.T) {
	none := api.Span{}
	ask(t, spool.Place, []answer{
		{"beginning", example(), 0, span(0, 0), api.OK},
		{"within the first turn", example(), 7, span(70, 70), api.OK},
		{"end of the first turn", example(), 10, span(100, 100), api.OK},
		{"last tick of the second turn", example(), 19, span(192, 194), api.OK},
		{"end of the second turn", example(), 20, span(203, 205), api.OK},
		{"within the third turn", example(), 25, span(256, 260), api.OK},
		{"last tick but one", example(), 9999, span(1598190, 2596990), api.OK},
		{"last tick", example(), 10000, span(1598500, 2597500), api.OK},
		{"rounded down", reel(7, 3, 0, 0), 4, span(9, 9), api.OK},
		{"not rounded to the nearest", reel(7, 3, 0, 0), 5, span(11, 11), api.OK},
		{"rounded down in a later turn", reel(7, 3, 1, 1), 5, span(12, 12), api.OK},
		{"one growth in two is rounded", reel(5, 2, 0, 1), 3, span(7, 8), api.OK},
		{"greatest numbers", largest(), 99999999, span(599499989, 599499989), api.OK},
		{"end of greatest numbers", largest(), 100000000, span(599500000, 599500000), api.OK},
		{"time below 0", example(), -1, none, api.ErrRange},
		{"time after the last turn", example(), 10001, none, api.ErrRange},
		{"time after the last turn of short turns", reel(100, 1, 3, 5), 1001, none, api.ErrRange},
		{"least int", example(), math.MinInt, none, api.ErrRange},
		{"greatest int", example(), math.MaxInt, none, api.ErrRange},
	})
}

// P5.2: Arrival returns the span of the arrivals of a place.
func TestArrival(t *testing.T) {
	none := api.Span{}
	ask(t, spool.Arrival, []answer{
		{"beginning", example(), 0, span(0, 0), api.OK},
		{"after the beginning", example(), 1, span(1, 1), api.OK},
		{"just in the first tick", example(), 10, span(1, 1), api.OK},
		{"after the first tick", example(), 11, span(2, 2), api.OK},
		{"example 249", example(), 249, span(24, 25), api.OK},
		{"example 203", example(), 203, span(20, 20), api.OK},
		{"thin paper just arrives", example(), 245, span(24, 24), api.OK},
		{"thin paper does not arrive", example(), 246, span(24, 25), api.OK},
		{"rounded down", reel(7, 3, 0, 0), 9, span(4, 4), api.OK},
		{"not there yet", reel(7, 3, 0, 0), 10, span(5, 5), api.OK},
		{"last place of the thinnest paper", example(), 1598500, span(7804, 10000), api.OK},
		{"after it", example(), 1598501, none, api.ErrOver},
		{"last place of the thickest paper", example(), 2597500, none, api.ErrOver},
		{"last place of one growth", reel(100, 10, 5, 5), 2597500, span(10000, 10000), api.OK},
		{"last tick of one growth", reel(100, 10, 3, 3), 1598190, span(9999, 9999), api.OK},
		{"least numbers", reel(1, 1, 0, 0), 1000, span(1000, 1000), api.OK},
		{"after least numbers", reel(1, 1, 0, 0), 1001, none, api.ErrOver},
		{"greatest numbers", largest(), 599500000, span(100000000, 100000000), api.OK},
		{"after greatest numbers", largest(), 599500001, none, api.ErrOver},
		{"greatest int", example(), math.MaxInt, none, api.ErrOver},
		{"below 0", example(), -1, none, api.ErrRange},
		{"least int", example(), math.MinInt, none, api.ErrRange},
	})
}

// notes is a call that returns a list, with what it has to return.
type notes struct {
	name   string
	s      spool.Spool
	growth int
	given  []int
	want   []int
	e      api.Errno
}

// ordinal returns the numbers from 0 on, so many.
func ordinal(n int) []int {
	var l []int
	for i := range n {
		l = append(l, i)
	}
	return l
}

// compareNotes compares calls with what they have to return.
func compareNotes(t *testing.T, call func(spool.Spool, int, []int) ([]int, api.Errno), all []notes) {
	t.Helper()
	for _, x := range all {
		if got, e := call(x.s, x.growth, x.given); !slices.Equal(got, x.want) || e != x.e {
			t.Errorf("%s: %v, %d, want %v, %d", x.name, got, e, x.want, x.e)
		}
	}
}

// P5.3: Cut returns the places at times, or the error that is named first.
func TestCut(t *testing.T) {
	s, even := example(), reel(1, 1, 0, 0)
	compareNotes(t, spool.Cut, []notes{
		{"example", s, 4, list(0, 10, 25), list(0, 100, 258), api.OK},
		{"least growth", s, 3, list(25), list(256), api.OK},
		{"greatest growth", s, 5, list(25, 19), list(260, 194), api.OK},
		{"any order, and twice", s, 3, list(25, 24, 25), list(256, 245, 256), api.OK},
		{"last time", s, 3, list(10000), list(1598500), api.OK},
		{"greatest numbers", largest(), 1000, list(99999999, 100000000), list(599499989, 599500000), api.OK},
		{"nil", s, 4, nil, nil, api.OK},
		{"empty", s, 4, list(), nil, api.OK},
		{"100 times", even, 0, ordinal(100), ordinal(100), api.OK},
		{"101 times", even, 0, ordinal(101), nil, api.ErrMany},
		{"many before the times", s, 4, slices.Repeat(list(-1), 101), nil, api.ErrMany},
		{"growth before many", s, 2, ordinal(101), nil, api.ErrRange},
		{"growth below Grow", s, 2, nil, nil, api.ErrRange},
		{"growth above Grow", s, 6, nil, nil, api.ErrRange},
		{"extreme growth", s, math.MinInt, nil, nil, api.ErrRange},
		{"time below 0", s, 4, list(0, -1), nil, api.ErrRange},
		{"time after the last turn", s, 4, list(10001, 0), nil, api.ErrRange},
		{"last one of 100 times", s, 4, append(ordinal(99), 10001), nil, api.ErrRange},
		{"extreme time", s, 4, list(math.MaxInt), nil, api.ErrRange},
		{"other extreme time", s, 4, list(math.MinInt), nil, api.ErrRange},
	})
}

// P5.3: Play returns the arrivals of places, or the error that is named first.
func TestPlay(t *testing.T) {
	s, even := example(), reel(1, 1, 0, 0)
	compareNotes(t, spool.Play, []notes{
		{"example", s, 4, list(0, 100, 258), list(0, 10, 25), api.OK},
		{"between ticks", s, 4, list(1, 99, 257, 259), list(1, 10, 25, 26), api.OK},
		{"least growth", s, 3, list(257, 246, 0, 257), list(26, 25, 0, 26), api.OK},
		{"greatest growth", s, 5, list(258), list(25), api.OK},
		{"last place", s, 3, list(1598500), list(10000), api.OK},
		{"a place that thinner paper does not reach", s, 5, list(1598501, 2597500), list(7804, 10000), api.OK},
		{"greatest numbers", largest(), 1000, list(599499989, 599499990, 599500000), list(99999999, 100000000, 100000000), api.OK},
		{"nil", s, 4, nil, nil, api.OK},
		{"empty", s, 4, list(), nil, api.OK},
		{"100 places", even, 0, ordinal(100), ordinal(100), api.OK},
		{"101 places", even, 0, ordinal(101), nil, api.ErrMany},
		{"many before the places", s, 4, slices.Repeat(list(-1), 101), nil, api.ErrMany},
		{"growth before many", s, 6, ordinal(101), nil, api.ErrRange},
		{"growth below Grow", s, 2, list(math.MaxInt), nil, api.ErrRange},
		{"growth above Grow", s, 6, list(math.MaxInt), nil, api.ErrRange},
		{"extreme growth", s, math.MaxInt, nil, nil, api.ErrRange},
		{"place below 0", s, 4, list(0, -1), nil, api.ErrRange},
		{"place after the last turn", s, 3, list(0, 1598501), nil, api.ErrOver},
		{"range is first", s, 4, list(0, -1, math.MaxInt), nil, api.ErrRange},
		{"over is first", s, 4, list(math.MaxInt, -1), nil, api.ErrOver},
		{"last one of 100 places", s, 4, append(ordinal(99), math.MinInt), nil, api.ErrRange},
	})
}

// P5.4: Drift returns when a note sounds that was cut for a growth and a time.
func TestDrift(t *testing.T) {
	s := example()
	for _, x := range []struct {
		name         string
		s            spool.Spool
		growth, time int
		want         api.Span
		e            api.Errno
	}{
		{"example", s, 4, 25, span(25, 26), api.OK},
		{"least growth", s, 3, 25, span(25, 25), api.OK},
		{"greatest growth", s, 5, 25, span(25, 26), api.OK},
		{"beginning", s, 4, 0, span(0, 0), api.OK},
		{"within the first turn", s, 4, 7, span(7, 7), api.OK},
		{"much later", s, 4, 8000, span(7179, 9194), api.OK},
		{"the last time that all growths reach", s, 3, 10000, span(7804, 10000), api.OK},
		{"thinner paper does not reach the place", s, 4, 10000, api.Span{}, api.ErrOver},
		{"thinner paper does not reach the place, earlier", s, 5, 7804, api.Span{}, api.ErrOver},
		{"thinner paper just reaches the place", s, 5, 7803, span(7803, 10000), api.OK},
		{"one growth", reel(100, 10, 4, 4), 4, 10000, span(10000, 10000), api.OK},
		{"growth below Grow", s, 2, 5, api.Span{}, api.ErrRange},
		{"growth above Grow", s, 6, 5, api.Span{}, api.ErrRange},
		{"time below 0", s, 4, -1, api.Span{}, api.ErrRange},
		{"time after the last turn", s, 4, 10001, api.Span{}, api.ErrRange},
		{"extremes", s, math.MinInt, math.MaxInt, api.Span{}, api.ErrRange},
		{"extreme time", s, 4, math.MinInt, api.Span{}, api.ErrRange},
	} {
		if got, e := spool.Drift(x.s, x.growth, x.time); got != x.want || e != x.e {
			t.Errorf("%s: %v, %d, want %v, %d", x.name, got, e, x.want, x.e)
		}
	}
}

// P5.5: Govern returns how many ticks each turn takes.
func TestGovern(t *testing.T) {
	s := example()
	for _, x := range []struct {
		name          string
		s             spool.Spool
		growth, turns int
		want          []int
		e             api.Errno
	}{
		{"example", s, 4, 3, list(10, 10, 11), api.OK},
		{"greatest growth", s, 5, 4, list(10, 10, 11, 12), api.OK},
		{"least growth", s, 3, 4, list(10, 10, 10, 11), api.OK},
		{"no turn", s, 4, 0, nil, api.OK},
		{"1 turn", s, 4, 1, list(10), api.OK},
		{"the sums are rounded, not the turns", reel(7, 3, 2, 2), 2, 5, list(3, 3, 5, 6, 6), api.OK},
		{"no growth", reel(7, 3, 0, 1), 0, 4, list(3, 3, 3, 3), api.OK},
		{"as many ticks as paper", reel(5, 5, 0, 9), 2, 4, list(5, 7, 9, 11), api.OK},
		{"growth below Grow", s, 2, 3, nil, api.ErrRange},
		{"growth above Grow", s, 6, 3, nil, api.ErrRange},
		{"turns below 0", s, 4, -1, nil, api.ErrRange},
		{"turns above MaxTurns", s, 4, 1001, nil, api.ErrRange},
		{"extremes", s, math.MaxInt, math.MinInt, nil, api.ErrRange},
		{"extreme turns", s, 4, math.MaxInt, nil, api.ErrRange},
	} {
		if got, e := spool.Govern(x.s, x.growth, x.turns); !slices.Equal(got, x.want) || e != x.e {
			t.Errorf("%s: %v, %d, want %v, %d", x.name, got, e, x.want, x.e)
		}
	}
	long, e := spool.Govern(largest(), 1000, 1000)
	if len(long) != 1000 || long[0] != 100000 || long[999] != 100000+999*1000 || e != api.OK {
		t.Errorf("1000 turns: %d of them, %d", len(long), e)
	}
}

// gauges are measurements of the example with their growths. If there are none, clash is the only clash, or nil if there are several.
var gauges = []struct {
	name  string
	off   int
	l     []spool.Measure
	want  api.Span
	clash []int
	e     api.Errno
}{
	{"example", 1, measures(2, 204, 4, 424), span(4, 4), nil, api.OK},
	{"no measurement", 0, nil, span(3, 5), nil, api.OK},
	{"empty", 1000000, measures(), span(3, 5), nil, api.OK},
	{"one measurement", 1, measures(2, 204), span(3, 5), nil, api.OK},
	{"twice", 1, measures(4, 424, 4, 424), span(4, 4), nil, api.OK},
	{"no error", 0, measures(3, 312), span(4, 4), nil, api.OK},
	{"just not too short", 6, measures(4, 418), span(3, 4), nil, api.OK},
	{"just not too long", 7, measures(4, 437), span(5, 5), nil, api.OK},
	{"a bound from each one", 3, measures(2, 201, 3, 314), span(4, 4), nil, api.OK},
	{"turns that do not depend on the growth", 0, measures(1, 100, 0, 0), span(3, 5), nil, api.OK},
	{"1 turn, just within the error", 2, measures(1, 98, 1, 102, 0, 2), span(3, 5), nil, api.OK},
	{"greatest error", 1000000, measures(0, 1000000, 1000, 2000000), span(3, 5), nil, api.OK},
	{"1000 turns", 1, measures(1000, 1598501+499500), span(4, 4), nil, api.OK},
	{"example of two", 1, measures(2, 206, 4, 418), api.Span{}, list(0, 1), api.ErrClash},
	{"other order", 1, measures(4, 418, 2, 206), api.Span{}, list(0, 1), api.ErrClash},
	{"example of one", 1, measures(4, 437), api.Span{}, list(0), api.ErrClash},
	{"just too long", 6, measures(4, 437), api.Span{}, list(0), api.ErrClash},
	{"just too short", 5, measures(4, 412), api.Span{}, list(0), api.ErrClash},
	{"between two growths", 0, measures(4, 425), api.Span{}, list(0), api.ErrClash},
	{"1 turn is too short", 2, measures(1, 97), api.Span{}, list(0), api.ErrClash},
	{"1 turn is too long", 2, measures(1, 103), api.Span{}, list(0), api.ErrClash},
	{"no turn is too long", 2, measures(0, 3), api.Span{}, list(0), api.ErrClash},
	{"greatest length", 1000000, measures(1000, 1000000000), api.Span{}, list(0), api.ErrClash},
	{"1000 turns are too short", 1000000, measures(1000, 598499), api.Span{}, list(0), api.ErrClash},
	{"two that are not neighbours", 1, measures(2, 206, 2, 204, 1, 100, 4, 418, 2, 204), api.Span{}, list(0, 3), api.ErrClash},
	{"several clashes", 0, measures(4, 418, 2, 204, 2, 205), api.Span{}, nil, api.ErrClash},
	{"several clashes of one", 0, measures(1, 99, 4, 418, 1, 101), api.Span{}, nil, api.ErrClash},
	{"error below 0", -1, nil, api.Span{}, nil, api.ErrRange},
	{"error above MaxOff", 1000001, nil, api.Span{}, nil, api.ErrRange},
	{"extreme error", math.MaxInt, nil, api.Span{}, nil, api.ErrRange},
	{"other extreme error", math.MinInt, nil, api.Span{}, nil, api.ErrRange},
	{"50 measurements", 1, slices.Repeat(measures(4, 424), 50), span(4, 4), nil, api.OK},
	{"the last of 50 measurements", 1, append(make([]spool.Measure, 49), measures(4, 437)...), api.Span{}, nil, api.ErrClash},
	{"51 measurements", 1, make([]spool.Measure, 51), api.Span{}, nil, api.ErrMany},
	{"range of the error before many", -1, make([]spool.Measure, 51), api.Span{}, nil, api.ErrRange},
	{"many before range", 1, slices.Repeat(measures(-1, -1), 51), api.Span{}, nil, api.ErrMany},
	{"turns below 0", 1, measures(-1, 0), api.Span{}, nil, api.ErrRange},
	{"turns above MaxTurns", 1, measures(1001, 0), api.Span{}, nil, api.ErrRange},
	{"length below 0", 1, measures(1, -1), api.Span{}, nil, api.ErrRange},
	{"length above MaxLength", 1, measures(1, 1000000001), api.Span{}, nil, api.ErrRange},
	{"range before clash", 1, measures(4, 437, 0, -1), api.Span{}, nil, api.ErrRange},
	{"extreme turns", 1, measures(math.MinInt, 0), api.Span{}, nil, api.ErrRange},
	{"extreme length", 1, measures(0, math.MaxInt), api.Span{}, nil, api.ErrRange},
}

// P5.6: Growths returns all growths that fit, or the error that is named first.
func TestGrowths(t *testing.T) {
	for _, x := range gauges {
		if got, e := spool.Growths(example(), x.off, x.l); got != x.want || e != x.e {
			t.Errorf("%s: %v, %d, want %v, %d", x.name, got, e, x.want, x.e)
		}
	}
}

// P5.7: Clash returns a clash if there is one, and otherwise the error that is named first.
func TestClash(t *testing.T) {
	for _, x := range gauges {
		got, e := spool.Clash(example(), x.off, x.l)
		want := x.e
		switch x.e {
		case api.OK:
			want = api.ErrNone
		case api.ErrClash:
			want = api.OK
		}
		if e != want || (want != api.OK && len(got) != 0) {
			t.Errorf("%s: %v, %d, want %d", x.name, got, e, want)
		}
		if x.clash != nil && !slices.Equal(got, x.clash) {
			t.Errorf("%s: %v, want %v", x.name, got, x.clash)
		}
		if want == api.OK && (spool.Verify(example(), x.off, x.l, got) != api.OK || len(fittingOf(example(), x.off, chosen(x.l, got))) > 0) {
			t.Errorf("%s: %v is not a clash", x.name, got)
		}
	}
}

// P5.7: Verify returns the errors of Growths before those of the clash.
func TestErrorsOfVerify(t *testing.T) {
	for _, x := range gauges {
		want := x.e
		if want == api.OK || want == api.ErrClash {
			want = api.ErrEmpty
		}
		if e := spool.Verify(example(), x.off, x.l, nil); e != want {
			t.Errorf("%s: %d, want %d", x.name, e, want)
		}
	}
}

// P5.7: Verify accepts clashes, and returns the error that is named first for other lists.
func TestVerify(t *testing.T) {
	l := measures(2, 206, 4, 418, 2, 204, 4, 437)
	for _, x := range []struct {
		name  string
		clash []int
		want  api.Errno
	}{
		{"two", list(0, 1), api.OK},
		{"one", list(3), api.OK},
		{"one with another one before it", list(2, 3), api.OK},
		{"a growth fits one", list(0), api.ErrProof},
		{"a growth fits the other one", list(1), api.ErrProof},
		{"a growth fits both", list(0, 2), api.ErrProof},
		{"another growth fits both", list(1, 2), api.ErrProof},
		{"nil", nil, api.ErrEmpty},
		{"empty", list(), api.ErrEmpty},
		{"three", list(0, 1, 2), api.ErrMany},
		{"many before none", list(-1, 4, 5), api.ErrMany},
		{"number below 0", list(-1), api.ErrNone},
		{"number above all", list(4), api.ErrNone},
		{"second number above all", list(0, 4), api.ErrNone},
		{"second number below 0", list(0, -1), api.ErrNone},
		{"first number is none", list(4, 0), api.ErrNone},
		{"other order", list(1, 0), api.ErrOrder},
		{"twice", list(3, 3), api.ErrOrder},
		{"twice the first one", list(0, 0), api.ErrOrder},
		{"extremes", list(math.MinInt, math.MaxInt), api.ErrNone},
		{"greatest int", list(0, math.MaxInt), api.ErrNone},
	} {
		if e := spool.Verify(example(), 1, l, x.clash); e != x.want {
			t.Errorf("%s: %d, want %d", x.name, e, x.want)
		}
	}
	if e := spool.Verify(example(), 1, nil, list(0)); e != api.ErrNone {
		t.Errorf("no measurement: %d", e)
	}
}
