package punch_test

import (
	"math"
	"slices"
	"testing"

	"pianola/api"
	"pianola/punch"
)

// equalSlots returns so many slots that all clash.
func equalSlots(n int) []punch.Slot { return slices.Repeat(slots(0, 1), n) }

// upTo returns the numbers from 0 to n - 1.
func upTo(n int) []int {
	var l []int
	for i := range n {
		l = append(l, i)
	}
	return l
}

// jobs are jobs with their errors.
var jobs = []struct {
	name string
	j    punch.Job
	want api.Errno
}{
	{"zero value", punch.Job{}, api.OK},
	{"empty", punch.Job{Slots: []punch.Slot{}}, api.OK},
	{"ordinary", exampleJ(), api.OK},
	{"least and greatest", job(1000, 0, 1, 999999, 1000000, 0, 1000000), api.OK},
	{"40 slots", punch.Job{Slots: equalSlots(40)}, api.OK},
	{"rest below 0", job(-1), api.ErrRange},
	{"rest above MaxRest", job(1001), api.ErrRange},
	{"extreme rest", job(math.MinInt, 0, 1), api.ErrRange},
	{"other extreme rest", job(math.MaxInt, 0, 1), api.ErrRange},
	{"41 slots", punch.Job{Slots: equalSlots(41)}, api.ErrMany},
	{"rest before many", punch.Job{Rest: 1001, Slots: equalSlots(41)}, api.ErrRange},
	{"many before slots", punch.Job{Slots: make([]punch.Slot, 41)}, api.ErrMany},
	{"no length", job(0, 3, 3), api.ErrRange},
	{"To before From", job(0, 4, 3), api.ErrRange},
	{"From below 0", job(0, -1, 3), api.ErrRange},
	{"To above MaxTime", job(0, 3, 1000001), api.ErrRange},
	{"both above MaxTime", job(0, 1000001, 1000002), api.ErrRange},
	{"both below 0", job(0, -2, -1), api.ErrRange},
	{"extremes", job(0, math.MinInt, math.MaxInt), api.ErrRange},
	{"other extremes", job(0, math.MaxInt, math.MinInt), api.ErrRange},
	{"last slot", job(0, 1, 2, 3, 4, 5, 5), api.ErrRange},
}

// P3.1: Check returns the error that is named first.
func TestCheck(t *testing.T) {
	for _, x := range jobs {
		if e := punch.Check(x.j); e != x.want {
			t.Errorf("%s: %d, want %d", x.name, e, x.want)
		}
	}
}

// P3.1 to P3.4: all calls return the error of Check, before any other one, and zero values.
func TestErrorsOfJobs(t *testing.T) {
	for _, x := range jobs {
		if x.want == api.OK {
			continue
		}
		if crowd, e := punch.Crowd(x.j, 0); e != x.want || len(crowd) != 0 {
			t.Errorf("%s: Crowd = %v, %d, want %d", x.name, crowd, e, x.want)
		}
		if plan, passes, e := punch.Passes(x.j); e != x.want || len(plan) != 0 || passes != 0 {
			t.Errorf("%s: Passes = %v, %d, %d, want %d", x.name, plan, passes, e, x.want)
		}
		if moment, e := punch.Prove(x.j); e != x.want || moment != 0 {
			t.Errorf("%s: Prove = %d, %d, want %d", x.name, moment, e, x.want)
		}
		for _, plan := range [][]int{nil, upTo(len(x.j.Slots)), list(-1)} {
			if passes, e := punch.Verify(x.j, plan); e != x.want || passes != 0 {
				t.Errorf("%s: Verify = %d, %d, want %d", x.name, passes, e, x.want)
			}
			if pass, e := punch.Add(x.j, plan, slot(1, 1)); e != x.want || pass != 0 {
				t.Errorf("%s: Add = %d, %d, want %d", x.name, pass, e, x.want)
			}
		}
	}
}

// P3.1: a crowd is the slots that have begun, and not ended with their rest.
func TestCrowd(t *testing.T) {
	for _, x := range []struct {
		name   string
		j      punch.Job
		moment int
		want   []int
	}{
		{"example at 5", exampleJ(), 5, list(0, 1, 3)},
		{"example at 6", exampleJ(), 6, list(1, 2, 3)},
		{"example at 10", exampleJ(), 10, list(1, 4)},
		{"example, before all", exampleJ(), -1, nil},
		{"example, at the last moment", exampleJ(), 13, list(4)},
		{"example, after all", exampleJ(), 14, nil},
		{"no slots", job(5), 0, nil},
		{"begins", job(0, 7, 9), 7, list(0)},
		{"has not begun", job(0, 7, 9), 6, nil},
		{"last moment without rest", job(0, 7, 9), 8, list(0)},
		{"has ended without rest", job(0, 7, 9), 9, nil},
		{"last moment of the greatest rest", job(1000, 7, 1000000), 1000999, list(0)},
		{"after the greatest rest", job(1000, 7, 1000000), 1001000, nil},
		{"rest is not before the slot", job(5, 7, 9), 6, nil},
		{"numbers ascend", job(0, 5, 9, 3, 9, 4, 9), 5, list(0, 1, 2)},
		{"all", punch.Job{Slots: equalSlots(40)}, 0, upTo(40)},
		{"extreme moment", exampleJ(), math.MinInt, nil},
		{"other extreme moment", exampleJ(), math.MaxInt, nil},
	} {
		if crowd, e := punch.Crowd(x.j, x.moment); !slices.Equal(crowd, x.want) || e != api.OK {
			t.Errorf("%s: %v, %d, want %v", x.name, crowd, e, x.want)
		}
	}
}

// P3.2 and P3.3: Passes takes the slots in the order of From, and Prove returns the first of the greatest crowds.
func TestPassesAndProve(t *testing.T) {
	for _, x := range []struct {
		name   string
		j      punch.Job
		plan   []int
		passes int
		moment int
	}{
		{"example", exampleJ(), list(0, 1, 0, 2, 0), 3, 5},
		{"one slot", job(1000, 7, 9), list(0), 1, 7},
		{"touch without rest", job(0, 0, 4, 4, 8), list(0, 0), 1, 0},
		{"touch with rest", job(1, 0, 4, 4, 8), list(0, 1), 2, 4},
		{"rest fits just in between", job(2, 0, 4, 6, 8), list(0, 0), 1, 0},
		{"rest does not fit in between", job(3, 0, 4, 6, 8), list(0, 1), 2, 6},
		{"later slot comes first", job(3, 6, 8, 0, 4), list(1, 0), 2, 6},
		{"From decides, not To", job(0, 0, 9, 1, 3), list(0, 1), 2, 1},
		{"From decides, not the number", job(0, 4, 6, 0, 5, 5, 9), list(1, 0, 0), 2, 4},
		{"with equal From the number decides", job(0, 5, 9, 5, 6, 5, 7), list(0, 1, 2), 3, 5},
		{"the smallest free number", job(0, 0, 10, 1, 3, 2, 4, 3, 9, 4, 8), list(0, 1, 2, 1, 2), 3, 2},
		{"the first of two greatest crowds", job(0, 90, 99, 91, 95, 10, 20, 12, 13), list(0, 1, 0, 1), 2, 12},
		{"40 slots that clash", punch.Job{Slots: equalSlots(40)}, upTo(40), 40, 0},
		{"ends of the roll", job(0, 999999, 1000000, 0, 1), list(0, 0), 1, 0},
	} {
		plan, passes, e := punch.Passes(x.j)
		if !slices.Equal(plan, x.plan) || passes != x.passes || e != api.OK {
			t.Errorf("%s: Passes = %v, %d, %d, want %v, %d", x.name, plan, passes, e, x.plan, x.passes)
		}
		if moment, e := punch.Prove(x.j); moment != x.moment || e != api.OK {
			t.Errorf("%s: Prove = %d, %d, want %d", x.name, moment, e, x.moment)
		}
	}
}

// P3.2 and P3.3: without slots there are no passes, and nothing to prove.
func TestNoSlots(t *testing.T) {
	for _, j := range []punch.Job{{}, {Rest: 1000}, {Slots: []punch.Slot{}}} {
		if plan, passes, e := punch.Passes(j); len(plan) != 0 || passes != 0 || e != api.OK {
			t.Errorf("Passes = %v, %d, %d", plan, passes, e)
		}
		if moment, e := punch.Prove(j); moment != 0 || e != api.ErrNone {
			t.Errorf("Prove = %d, %d", moment, e)
		}
		for _, plan := range [][]int{nil, {}} {
			if passes, e := punch.Verify(j, plan); passes != 0 || e != api.OK {
				t.Errorf("Verify = %d, %d", passes, e)
			}
			if pass, e := punch.Add(j, plan, slot(3, 4)); pass != 0 || e != api.OK {
				t.Errorf("Add = %d, %d", pass, e)
			}
		}
		if passes, e := punch.Verify(j, list(0)); passes != 0 || e != api.ErrShape {
			t.Errorf("Verify of a plan = %d, %d", passes, e)
		}
	}
}

// plans are plans of the example J, with their passes or errors.
var plans = []struct {
	name   string
	plan   []int
	passes int
	want   api.Errno
}{
	{"best", list(0, 1, 0, 2, 0), 3, api.OK},
	{"all different", list(0, 1, 2, 3, 4), 5, api.OK},
	{"numbers left out", list(5, 1, 5, 2, 0), 6, api.OK},
	{"greatest number", list(0, 1, 0, 2, 39), 40, api.OK},
	{"greatest number at first", list(39, 1, 0, 2, 0), 40, api.OK},
	{"no plan", nil, 0, api.ErrShape},
	{"too short", list(0, 1, 0, 2), 0, api.ErrShape},
	{"too long", list(0, 1, 0, 2, 0, 0), 0, api.ErrShape},
	{"shape before range", list(0, 0, -1, 40), 0, api.ErrShape},
	{"number below 0", list(0, 1, 0, 2, -1), 0, api.ErrRange},
	{"number above MaxSlots - 1", list(40, 1, 0, 2, 0), 0, api.ErrRange},
	{"extreme number", list(0, math.MinInt, 0, 2, 0), 0, api.ErrRange},
	{"other extreme number", list(0, 1, math.MaxInt, 2, 0), 0, api.ErrRange},
	{"range before proof", list(0, 0, 0, 0, 40), 0, api.ErrRange},
	{"slots 2 and 3 clash", list(0, 1, 2, 2, 0), 0, api.ErrProof},
	{"slots 0 and 1 clash", list(0, 0, 1, 2, 0), 0, api.ErrProof},
	{"slots 1 and 4 clash", list(0, 1, 0, 2, 1), 0, api.ErrProof},
	{"slots 0 and 3 clash because of the rest", list(0, 1, 2, 0, 0), 0, api.ErrProof},
}

// P3.3 and P3.4: Verify checks length, numbers and clashes, in this order; Add returns its errors before its own.
func TestVerify(t *testing.T) {
	for _, x := range plans {
		if passes, e := punch.Verify(exampleJ(), x.plan); passes != x.passes || e != x.want {
			t.Errorf("%s: Verify = %d, %d, want %d, %d", x.name, passes, e, x.passes, x.want)
		}
		if pass, e := punch.Add(exampleJ(), x.plan, slot(500, 501)); e != x.want || e != api.OK && pass != 0 {
			t.Errorf("%s: Add = %d, %d, want %d", x.name, pass, e, x.want)
		}
		want := x.want
		if want == api.OK {
			want = api.ErrRange
		}
		if pass, e := punch.Add(exampleJ(), x.plan, slot(1, 1)); pass != 0 || e != want {
			t.Errorf("%s: Add of no slot = %d, %d, want %d", x.name, pass, e, want)
		}
	}
}

// P3.4: Add returns the smallest number that is free for one more slot.
func TestAdd(t *testing.T) {
	full := punch.Job{Slots: equalSlots(40)}
	for _, x := range []struct {
		name string
		j    punch.Job
		plan []int
		s    punch.Slot
		pass int
		want api.Errno
	}{
		{"example, 12 to 13", exampleJ(), list(0, 1, 0, 2, 0), slot(12, 13), 1, api.OK},
		{"example, 20 to 21", exampleJ(), list(0, 1, 0, 2, 0), slot(20, 21), 0, api.OK},
		{"rest has just passed", exampleJ(), list(0, 1, 0, 2, 0), slot(14, 15), 0, api.OK},
		{"rest has not passed", exampleJ(), list(0, 1, 0, 2, 0), slot(13, 15), 1, api.OK},
		{"clashes with all", exampleJ(), list(0, 1, 0, 2, 0), slot(0, 20), 3, api.OK},
		{"number left out", exampleJ(), list(0, 2, 0, 3, 0), slot(0, 20), 1, api.OK},
		{"0 is left out", exampleJ(), list(4, 1, 4, 2, 4), slot(0, 20), 0, api.OK},
		{"before a slot, with its own rest", job(3, 8, 9), list(0), slot(0, 5), 0, api.OK},
		{"before a slot, within its own rest", job(3, 8, 9), list(0), slot(0, 6), 1, api.OK},
		{"before slots that are there", job(0, 5, 9), list(0), slot(0, 6), 1, api.OK},
		{"as many slots as possible", full, upTo(40), slot(0, 1), 40, api.OK},
		{"as many slots as possible, no clash", full, upTo(40), slot(1, 2), 0, api.OK},
		{"least and greatest", job(0, 3, 4), list(0), slot(0, 1000000), 1, api.OK},
		{"no length", exampleJ(), list(0, 1, 0, 2, 0), slot(4, 4), 0, api.ErrRange},
		{"To before From", exampleJ(), list(0, 1, 0, 2, 0), slot(4, 3), 0, api.ErrRange},
		{"From below 0", exampleJ(), list(0, 1, 0, 2, 0), slot(-1, 4), 0, api.ErrRange},
		{"To above MaxTime", exampleJ(), list(0, 1, 0, 2, 0), slot(5, 1000001), 0, api.ErrRange},
		{"extremes", exampleJ(), list(0, 1, 0, 2, 0), slot(math.MinInt, math.MaxInt), 0, api.ErrRange},
	} {
		if pass, e := punch.Add(x.j, x.plan, x.s); pass != x.pass || e != x.want {
			t.Errorf("%s: %d, %d, want %d, %d", x.name, pass, e, x.pass, x.want)
		}
	}
}

// papers are papers with the lengths of holes and bridges, or the error.
var papers = []struct {
	name         string
	p            punch.Paper
	hole, bridge api.Span
	want         api.Errno
}{
	{"example", exampleP(), span(1, 50), span(11, 20), api.OK},
	{"the same on all days", paper(1000, 1000, 51, 10, 21), span(1, 51), span(10, 20), api.OK},
	{"as much change as possible", paper(900, 1100, 51, 10, 21), span(1, 46), span(12, 19), api.OK},
	{"always dry", paper(900, 900, 9, 9, 18), span(1, 10), span(10, 19), api.OK},
	{"always damp", paper(1100, 1100, 11, 11, 22), span(1, 10), span(10, 19), api.OK},
	{"greatest numbers", paper(900, 900, 1000, 1000, 1000), span(1, 1111), span(0, 0), api.OK},
	{"least numbers", paper(1000, 1000, 1, 1, 1), span(1, 1), span(0, 0), api.OK},
	{"one length", paper(1000, 1000, 1, 1, 2), span(1, 1), span(1, 1), api.OK},
	{"bridge of one length", paper(980, 1020, 51, 10, 12), span(1, 50), span(11, 11), api.OK},
	{"no bridge", paper(980, 1020, 51, 10, 11), span(1, 50), span(0, 0), api.OK},
	{"shut before narrow", paper(980, 1020, 51, 1000, 1), span(1, 50), span(0, 0), api.OK},
	{"bridge that is not shorter than Shut", paper(1000, 1000, 5, 4, 4), span(1, 5), span(0, 0), api.OK},
	{"bridge that would be a thousandth too short", paper(999, 1000, 5, 1, 10), span(1, 5), span(2, 9), api.OK},
	{"bridge that is a thousandth shorter than Shut", paper(1000, 1001, 5, 10, 1000), span(1, 4), span(10, 999), api.OK},
	{"hole that would be a thousandth too long", paper(999, 1001, 1000, 2, 3), span(1, 999), span(0, 0), api.OK},
	{"no hole", paper(1000, 1001, 1, 1, 2), span(0, 0), span(0, 0), api.ErrStuck},
	{"no hole, no bridge", paper(900, 1100, 1, 5, 2), span(0, 0), span(0, 0), api.ErrStuck},
	{"Grow begins below 900", paper(899, 1000, 51, 10, 21), span(0, 0), span(0, 0), api.ErrRange},
	{"Grow ends above 1100", paper(1000, 1101, 51, 10, 21), span(0, 0), span(0, 0), api.ErrRange},
	{"Grow is not valid", paper(1001, 1000, 51, 10, 21), span(0, 0), span(0, 0), api.ErrRange},
	{"Grow is far below", paper(0, 0, 51, 10, 21), span(0, 0), span(0, 0), api.ErrRange},
	{"Grow is above", paper(1101, 1101, 51, 10, 21), span(0, 0), span(0, 0), api.ErrRange},
	{"Grow is extreme", paper(math.MinInt, math.MaxInt, 51, 10, 21), span(0, 0), span(0, 0), api.ErrRange},
	{"Longest below 1", paper(980, 1020, 0, 10, 21), span(0, 0), span(0, 0), api.ErrRange},
	{"Longest above MaxBar", paper(980, 1020, 1001, 10, 21), span(0, 0), span(0, 0), api.ErrRange},
	{"Narrow below 1", paper(980, 1020, 51, 0, 21), span(0, 0), span(0, 0), api.ErrRange},
	{"Narrow above MaxBar", paper(980, 1020, 51, 1001, 21), span(0, 0), span(0, 0), api.ErrRange},
	{"Shut below 1", paper(980, 1020, 51, 10, 0), span(0, 0), span(0, 0), api.ErrRange},
	{"Shut above MaxBar", paper(980, 1020, 51, 10, 1001), span(0, 0), span(0, 0), api.ErrRange},
	{"extreme lengths", paper(980, 1020, math.MaxInt, math.MinInt, math.MaxInt), span(0, 0), span(0, 0), api.ErrRange},
	{"range before stuck", paper(1000, 1001, 1, 0, 2), span(0, 0), span(0, 0), api.ErrRange},
	{"zero value", punch.Paper{}, span(0, 0), span(0, 0), api.ErrRange},
}

// P3.5: Bars returns the lengths of holes and of bridges.
func TestBars(t *testing.T) {
	for _, x := range papers {
		hole, bridge, e := punch.Bars(x.p)
		if hole != x.hole || bridge != x.bridge || e != x.want {
			t.Errorf("%s: %v, %v, %d, want %v, %v, %d", x.name, hole, bridge, e, x.hole, x.bridge, x.want)
		}
	}
}

// P3.6 and P3.7: Bridge and Holds return the errors of a paper before others; Holds leaves out ErrStuck.
func TestErrorsOfPapers(t *testing.T) {
	for _, x := range papers {
		if x.want == api.OK {
			continue
		}
		for _, s := range []punch.Slot{slot(0, 1), slot(1, 1), slot(0, 10001)} {
			if holes, e := punch.Bridge(x.p, s); len(holes) != 0 || e != x.want {
				t.Errorf("%s: Bridge(%v) = %v, %d, want %d", x.name, s, holes, e, x.want)
			}
		}
		for _, y := range []struct {
			s     punch.Slot
			holes []punch.Slot
			want  api.Errno
		}{
			{slot(1, 1), equalSlots(201), api.ErrRange},
			{slot(0, 1), equalSlots(201), api.ErrMany},
			{slot(0, 1), nil, api.ErrShape},
			{slot(0, 5), slots(0, 1), api.ErrGap},
			{slot(0, 1), slots(0, 1), api.ErrRule},
			{slot(0, 3), slots(0, 1, 2, 3), api.ErrRule},
		} {
			want := y.want
			if x.want == api.ErrRange {
				want = api.ErrRange
			}
			if e := punch.Holds(x.p, y.s, y.holes); e != want {
				t.Errorf("%s: Holds(%v, %v) = %d, want %d", x.name, y.s, y.holes, e, want)
			}
		}
	}
}

// P3.6: Bridge returns as few holes as possible, the first parts as long as possible.
func TestBridge(t *testing.T) {
	one := paper(1000, 1000, 1, 1, 2)
	open := paper(980, 1020, 51, 10, 11)
	for _, x := range []struct {
		name string
		p    punch.Paper
		s    punch.Slot
		want []punch.Slot
		e    api.Errno
	}{
		{"example, 0 to 120", exampleP(), slot(0, 120), slots(0, 50, 70, 120), api.OK},
		{"example, 100 to 150", exampleP(), slot(100, 150), slots(100, 150), api.OK},
		{"example, 100 to 151", exampleP(), slot(100, 151), slots(100, 139, 150, 151), api.OK},
		{"one hole", exampleP(), slot(7, 8), slots(7, 8), api.OK},
		{"short last hole", exampleP(), slot(0, 75), slots(0, 50, 70, 75), api.OK},
		{"short last bridge and hole", exampleP(), slot(0, 62), slots(0, 50, 61, 62), api.OK},
		{"short first hole of the last two", exampleP(), slot(0, 121), slots(0, 50, 70, 109, 120, 121), api.OK},
		{"at the end of the roll", exampleP(), slot(999880, 1000000), slots(999880, 999930, 999950, 1000000), api.OK},
		{"no bridge is needed", open, slot(0, 50), slots(0, 50), api.OK},
		{"no bridge is possible", open, slot(0, 51), nil, api.ErrStuck},
		{"all lengths are 1", one, slot(0, 5), slots(0, 1, 2, 3, 4, 5), api.OK},
		{"all lengths are 1, and one is left", one, slot(0, 4), nil, api.ErrStuck},
		{"too long for a hole, too short for a bridge", paper(1000, 1000, 5, 9, 10), slot(0, 10), nil, api.ErrStuck},
		{"just long enough for a bridge", paper(1000, 1000, 5, 9, 10), slot(0, 11), slots(0, 1, 10, 11), api.OK},
		{"between two and three holes", paper(1000, 1000, 2, 9, 10), slot(0, 14), nil, api.ErrStuck},
		{"just long enough for three holes", paper(1000, 1000, 2, 9, 10), slot(0, 21), slots(0, 1, 10, 11, 20, 21), api.OK},
		{"greatest length", paper(900, 900, 1000, 1, 2), slot(0, 10000), slots(0, 1111, 1113, 2224, 2226, 3337, 3339, 4450, 4452, 5563, 5565, 6676, 6678, 7789, 7791, 8902, 8904, 10000), api.OK},
		{"above the greatest length", paper(900, 900, 1000, 1, 2), slot(0, 10001), nil, api.ErrRange},
		{"above the greatest length, not at 0", paper(900, 900, 1000, 1, 2), slot(5, 10006), nil, api.ErrRange},
		{"no length", exampleP(), slot(5, 5), nil, api.ErrRange},
		{"To before From", exampleP(), slot(6, 5), nil, api.ErrRange},
		{"From below 0", exampleP(), slot(-1, 5), nil, api.ErrRange},
		{"To above MaxTime", exampleP(), slot(999999, 1000001), nil, api.ErrRange},
		{"extremes", exampleP(), slot(math.MinInt, math.MaxInt), nil, api.ErrRange},
		{"range before stuck", open, slot(0, 10001), nil, api.ErrRange},
	} {
		holes, e := punch.Bridge(x.p, x.s)
		if !slices.Equal(holes, x.want) || e != x.e {
			t.Errorf("%s: %v, %d, want %v, %d", x.name, holes, e, x.want, x.e)
		}
	}
}

// P3.6 and P3.7: 200 holes are possible, and 201 are not.
func TestMaxHoles(t *testing.T) {
	one := paper(1000, 1000, 1, 1, 2)
	holes, e := punch.Bridge(one, slot(7, 406))
	if len(holes) != 200 || e != api.OK || holes[0] != slot(7, 8) || holes[199] != slot(405, 406) {
		t.Errorf("Bridge of 399: %v, %d", holes, e)
	}
	if e := punch.Holds(one, slot(7, 406), holes); e != api.OK {
		t.Errorf("Holds of 399: %d", e)
	}
	if more, e := punch.Bridge(one, slot(7, 408)); len(more) != 0 || e != api.ErrStuck {
		t.Errorf("Bridge of 401: %v, %d", more, e)
	}
	if e := punch.Holds(one, slot(7, 408), append(holes, slot(407, 408))); e != api.ErrMany {
		t.Errorf("Holds of 401: %d", e)
	}
	wide := paper(1000, 1000, 49, 1, 2) // 200 holes of 49 and 199 bridges of 1 are of the length 9999
	if holes, e := punch.Bridge(wide, slot(0, 9999)); len(holes) != 200 || e != api.OK {
		t.Errorf("Bridge of 9999: %d holes, %d", len(holes), e)
	}
	if holes, e := punch.Bridge(wide, slot(0, 10000)); len(holes) != 0 || e != api.ErrStuck {
		t.Errorf("Bridge of 10000: %d holes, %d", len(holes), e)
	}
}

// P3.7: Holds checks the slot, the number of holes, the holes, what is between them, and the paper, in this order.
func TestHolds(t *testing.T) {
	open := paper(980, 1020, 51, 10, 11)
	for _, x := range []struct {
		name  string
		p     punch.Paper
		s     punch.Slot
		holes []punch.Slot
		want  api.Errno
	}{
		{"example", exampleP(), slot(0, 120), slots(0, 50, 70, 120), api.OK},
		{"example, long hole", exampleP(), slot(0, 120), slots(0, 51, 70, 120), api.ErrRule},
		{"example, short bridge", exampleP(), slot(0, 120), slots(0, 50, 60, 120), api.ErrRule},
		{"one hole", exampleP(), slot(0, 50), slots(0, 50), api.OK},
		{"one long hole", exampleP(), slot(0, 51), slots(0, 51), api.ErrRule},
		{"long last hole", exampleP(), slot(0, 120), slots(0, 49, 69, 120), api.ErrRule},
		{"shortest bridge", exampleP(), slot(0, 100), slots(0, 50, 61, 100), api.OK},
		{"too short a bridge", exampleP(), slot(0, 100), slots(0, 50, 60, 100), api.ErrRule},
		{"longest bridge", exampleP(), slot(0, 100), slots(0, 50, 70, 100), api.OK},
		{"too long a bridge", exampleP(), slot(0, 100), slots(0, 50, 71, 100), api.ErrRule},
		{"more holes than needed", exampleP(), slot(0, 100), slots(0, 30, 41, 60, 75, 100), api.OK},
		{"second bridge is too short", exampleP(), slot(0, 100), slots(0, 30, 41, 60, 70, 100), api.ErrRule},
		{"no bridge is possible", open, slot(0, 60), slots(0, 40, 50, 60), api.ErrRule},
		{"no bridge is possible nor needed", open, slot(0, 50), slots(0, 50), api.OK},
		{"first hole begins later", exampleP(), slot(0, 50), slots(1, 50), api.ErrGap},
		{"first hole begins before", exampleP(), slot(1, 50), slots(0, 50), api.ErrGap},
		{"last hole ends before", exampleP(), slot(0, 50), slots(0, 49), api.ErrGap},
		{"last hole ends later", exampleP(), slot(0, 50), slots(0, 51), api.ErrGap},
		{"holes touch", exampleP(), slot(0, 100), slots(0, 50, 50, 100), api.ErrGap},
		{"holes overlap", exampleP(), slot(0, 100), slots(0, 50, 49, 100), api.ErrGap},
		{"holes descend", exampleP(), slot(0, 100), slots(0, 30, 75, 90, 41, 60, 75, 100), api.ErrGap},
		{"last holes touch", exampleP(), slot(0, 100), slots(0, 30, 41, 60, 60, 100), api.ErrGap},
		{"no hole", exampleP(), slot(0, 50), nil, api.ErrShape},
		{"empty", exampleP(), slot(0, 50), slots(), api.ErrShape},
		{"hole without length", exampleP(), slot(0, 50), slots(9, 9), api.ErrShape},
		{"hole below 0", exampleP(), slot(0, 50), slots(-1, 50), api.ErrShape},
		{"hole above MaxTime", exampleP(), slot(999990, 1000000), slots(999990, 1000001), api.ErrShape},
		{"extreme hole", exampleP(), slot(0, 50), slots(math.MaxInt, math.MinInt), api.ErrShape},
		{"shape before gap", exampleP(), slot(0, 50), slots(1, 50, 60, 60), api.ErrShape},
		{"gap before rule", exampleP(), slot(0, 150), slots(0, 100, 100, 150), api.ErrGap},
		{"gap at the end before rule", exampleP(), slot(0, 150), slots(0, 100), api.ErrGap},
		{"many before shape", exampleP(), slot(0, 50), make([]punch.Slot, 201), api.ErrMany},
		{"200 holes are not many", exampleP(), slot(0, 50), make([]punch.Slot, 200), api.ErrShape},
		{"no slot", exampleP(), slot(5, 5), slots(5, 5), api.ErrRange},
		{"slot below 0", exampleP(), slot(-1, 5), slots(0, 5), api.ErrRange},
		{"slot above MaxTime", exampleP(), slot(999999, 1000001), slots(999999, 1000000), api.ErrRange},
		{"range before many", exampleP(), slot(5, 4), make([]punch.Slot, 201), api.ErrRange},
	} {
		if e := punch.Holds(x.p, x.s, x.holes); e != x.want {
			t.Errorf("%s: %d, want %d", x.name, e, x.want)
		}
	}
}

// P3.7: a slot that is too long for Bridge can hold.
func TestHoldsOfLongSlot(t *testing.T) {
	p := paper(1000, 1000, 1000, 1, 2)
	var holes []punch.Slot
	for at := 0; at < 20000; at += 1001 {
		holes = append(holes, slot(at, at+1000))
	}
	s := slot(0, holes[len(holes)-1].To)
	if e := punch.Holds(p, s, holes); e != api.OK {
		t.Errorf("Holds = %d", e)
	}
	if _, e := punch.Bridge(p, s); e != api.ErrRange {
		t.Errorf("Bridge = %d", e)
	}
}
