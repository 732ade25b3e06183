package spool_test

import (
	"math"
	"reflect"
	"slices"
	"testing"

	"pianola/api"
	"pianola/spool"
)

// must fails a test if there is an error.
func must(t *testing.T, e api.Errno) {
	t.Helper()
	if e != api.OK {
		t.Fatalf("error %d", e)
	}
}

// spanned returns the span of a call that has no error.
func spanned(t *testing.T, call func(spool.Spool, int) (api.Span, api.Errno), s spool.Spool, number int) api.Span {
	t.Helper()
	got, e := call(s, number)
	must(t, e)
	return got
}

// listed returns the list of a call that has no error.
func listed(t *testing.T, call func(spool.Spool, int, []int) ([]int, api.Errno), s spool.Spool, growth int, numbers []int) []int {
	t.Helper()
	got, e := call(s, growth, numbers)
	must(t, e)
	return got
}

// with returns a spool of which the growth is known.
func with(s spool.Spool, growth int) spool.Spool {
	return reel(s.Core, s.Ticks, growth, growth)
}

// has reports whether a span has a number.
func has(x api.Span, n int) bool { return x.Lo <= n && n <= x.Hi }

// P5.1 (with P5.8): lengths and places are those of the definitions, and both ends occur.
func TestLengthAndPlaceAreExact(t *testing.T) {
	r := newRandom()
	for range 400 {
		s := mixedSpool(r)
		s.Grow.Hi = min(s.Grow.Hi, s.Grow.Lo+5)
		turns, time := r.Intn(spool.MaxTurns+1), anyTime(r, s)
		want := spanOf(s.Grow, func(growth int) int { return lengthOf(s, growth, turns) })
		if got := spanned(t, spool.Length, s, turns); got != want {
			t.Fatalf("Length(%v, %d) = %v, want %v", s, turns, got, want)
		}
		want = spanOf(s.Grow, func(growth int) int { return placeOf(s, growth, time) })
		if got := spanned(t, spool.Place, s, time); got != want {
			t.Fatalf("Place(%v, %d) = %v, want %v", s, time, got, want)
		}
	}
}

// P5.8: whatever growth is true, length, place and arrival lie within what is returned.
func TestTruthIsReturned(t *testing.T) {
	r := newRandom()
	for range 1000 {
		s := mixedSpool(r)
		growth, turns, time := anyGrowth(r, s), r.Intn(spool.MaxTurns+1), anyTime(r, s)
		if got := spanned(t, spool.Length, s, turns); !has(got, lengthOf(s, growth, turns)) {
			t.Fatalf("Length(%v, %d) = %v without the growth %d", s, turns, got, growth)
		}
		place := placeOf(s, growth, time)
		if got := spanned(t, spool.Place, s, time); !has(got, place) {
			t.Fatalf("Place(%v, %d) = %v without the growth %d", s, time, got, growth)
		}
		got, e := spool.Arrival(s, place)
		if over := place > lengthOf(s, s.Grow.Lo, spool.MaxTurns); over != (e == api.ErrOver) || e == api.OK && !has(got, time) {
			t.Fatalf("Arrival(%v, %d) = %v, %d without the growth %d", s, place, got, e, growth)
		}
	}
}

// P5.2 (with P5.8): arrivals are those of the definition for all growths, and ErrOver just if some growth has none.
func TestArrivalIsExact(t *testing.T) {
	r := newRandom()
	for range 60 {
		s := smallSpool(r)
		var all [][]int
		for _, growth := range growthsOf(s.Grow) {
			all = append(all, placesOf(s, growth))
		}
		end := all[0][len(all[0])-1]
		for _, place := range []int{0, 1, r.Intn(end + 1), r.Intn(end + 1), end - 1, end, end + 1, end + r.Intn(end)} {
			var arrivals []int
			for _, places := range all {
				arrivals = append(arrivals, arrivalOf(places, place))
			}
			want, e := span(slices.Min(arrivals), slices.Max(arrivals)), api.OK
			if want.Lo < 0 {
				want, e = api.Span{}, api.ErrOver
			}
			if got, err := spool.Arrival(s, place); got != want || err != e {
				t.Fatalf("Arrival(%v, %d) = %v, %d, want %v, %d", s, place, got, err, want, e)
			}
		}
	}
}

// P5.3: Cut and Play are those of the definitions.
func TestCutAndPlayAreExact(t *testing.T) {
	r := newRandom()
	for range 60 {
		s := smallSpool(r)
		growth := anyGrowth(r, s)
		places := placesOf(s, growth)
		end := places[len(places)-1]
		times := anyTimes(r, s, r.Intn(spool.MaxNotes+1))
		var cut, given, played []int
		for _, time := range times {
			place := r.Intn(end + 1)
			cut, given, played = append(cut, places[time]), append(given, place), append(played, arrivalOf(places, place))
		}
		if got := listed(t, spool.Cut, s, growth, times); !slices.Equal(got, cut) {
			t.Fatalf("Cut(%v, %d, %v) = %v, want %v", s, growth, times, got, cut)
		}
		if got := listed(t, spool.Play, s, growth, given); !slices.Equal(got, played) {
			t.Fatalf("Play(%v, %d, %v) = %v, want %v", s, growth, given, got, played)
		}
		given = append(given, end+1)
		if got, e := spool.Play(s, growth, given[len(given)-1:]); len(got) != 0 || e != api.ErrOver {
			t.Fatalf("Play(%v, %d, %d) = %v, %d", s, growth, end+1, got, e)
		}
	}
}

// P5.9: the arrival of the place at a time is this time; the tick before an arrival has a lesser place.
func TestInverse(t *testing.T) {
	r := newRandom()
	for range 600 {
		s := mixedSpool(r)
		growth := anyGrowth(r, s)
		times := anyTimes(r, s, 20)
		if got := listed(t, spool.Play, s, growth, listed(t, spool.Cut, s, growth, times)); !slices.Equal(got, times) {
			t.Fatalf("%v, growth %d: %v sound at %v", s, growth, times, got)
		}
		place := r.Intn(lengthOf(s, growth, spool.MaxTurns) + 1)
		arrival := spanned(t, spool.Arrival, with(s, growth), place)
		if arrival.Lo != arrival.Hi || placeOf(s, growth, arrival.Lo) < place || arrival.Lo > 0 && placeOf(s, growth, arrival.Lo-1) >= place {
			t.Fatalf("%v, growth %d: the place %d arrives at %v", s, growth, place, arrival)
		}
		if got := listed(t, spool.Play, s, growth, list(place)); !slices.Equal(got, list(arrival.Lo)) {
			t.Fatalf("%v, growth %d: the place %d sounds at %v, arrives at %v", s, growth, place, got, arrival)
		}
	}
}

// P5.10: with a greater growth places are not less, and arrivals not later.
func TestThickerPaper(t *testing.T) {
	r := newRandom()
	for range 600 {
		s := mixedSpool(r)
		thin := anyGrowth(r, s)
		thick := between(r, thin, s.Grow.Hi)
		times := anyTimes(r, s, 20)
		places := listed(t, spool.Cut, s, thin, times)
		for i, place := range listed(t, spool.Cut, s, thick, times) {
			if place < places[i] {
				t.Fatalf("%v, time %d: place %d for %d, %d for %d", s, times[i], places[i], thin, place, thick)
			}
		}
		for i, arrival := range listed(t, spool.Play, s, thick, places) {
			if arrival > times[i] {
				t.Fatalf("%v, place %d: arrival %d for %d, %d for %d", s, places[i], times[i], thin, arrival, thick)
			}
		}
	}
}

// P5.11 (with P5.4): whatever growth is true, a note sounds within Drift, at the ends for some growth, and in time for the growth that was meant.
func TestDriftHoldsTheTruth(t *testing.T) {
	r := newRandom()
	for range 1000 {
		s := mixedSpool(r)
		meant, truth, time := anyGrowth(r, s), anyGrowth(r, s), anyTime(r, s)
		if r.Intn(2) == 0 {
			time /= 2
		}
		cut := placeOf(s, meant, time)
		got, e := spool.Drift(s, meant, time)
		if e == api.ErrOver {
			if got != (api.Span{}) || lengthOf(s, s.Grow.Lo, spool.MaxTurns) >= cut {
				t.Fatalf("Drift(%v, %d, %d) = %v, %d", s, meant, time, got, e)
			}
			continue
		}
		must(t, e)
		for _, growth := range []int{truth, meant, s.Grow.Lo, s.Grow.Hi} {
			sounds := listed(t, spool.Play, s, growth, list(cut))[0]
			if !has(got, sounds) || growth == meant && sounds != time || growth == s.Grow.Lo && sounds != got.Hi || growth == s.Grow.Hi && sounds != got.Lo {
				t.Fatalf("Drift(%v, %d, %d) = %v, but with the growth %d it sounds at %d", s, meant, time, got, growth, sounds)
			}
		}
	}
}

// P5.12 (with P5.5): the paper runs as fast as in the first turn, but for less than one tick at the end of each turn.
func TestGovernor(t *testing.T) {
	r := newRandom()
	for range 300 {
		s := mixedSpool(r)
		growth, turns := anyGrowth(r, s), r.Intn(spool.MaxTurns+1)
		got, e := spool.Govern(s, growth, turns)
		must(t, e)
		if len(got) != turns {
			t.Fatalf("Govern(%v, %d, %d) has %d turns", s, growth, turns, len(got))
		}
		ticks, length := 0, 0
		for turn, n := range got {
			ticks, length = ticks+n, length+s.Core+turn*growth
			// With so many ticks, and not with one more, the first turn's speed draws at most the length.
			if n < s.Ticks || ticks*s.Core > length*s.Ticks || (ticks+1)*s.Core <= length*s.Ticks {
				t.Fatalf("Govern(%v, %d, %d) = %v: turn %d", s, growth, turns, got, turn)
			}
		}
	}
}

// P5.13 (with P5.6): the growths that are returned are all that fit, and no others.
func TestGrowthsAreExact(t *testing.T) {
	r := newRandom()
	none := 0
	for range 1500 {
		s := mixedSpool(r)
		s.Grow.Hi = min(s.Grow.Hi, s.Grow.Lo+50)
		off := r.Intn(spool.MaxOff + 1)
		if r.Intn(3) > 0 {
			off = r.Intn(8)
		}
		l := anyMeasures(r, s, anyGrowth(r, s), off+r.Intn(3), r.Intn(5))
		fitting := fittingOf(s, off, l)
		got, e := spool.Growths(s, off, l)
		if len(fitting) == 0 {
			none++
			if got != (api.Span{}) || e != api.ErrClash {
				t.Fatalf("Growths(%v, %d, %v) = %v, %d, want ErrClash", s, off, l, got, e)
			}
			continue
		}
		if !slices.Equal(growthsOf(got), fitting) || e != api.OK {
			t.Fatalf("Growths(%v, %d, %v) = %v, %d, want %v", s, off, l, got, e, fitting)
		}
	}
	if none < 100 || none > 1400 {
		t.Fatalf("%d of 1500 have no growth", none)
	}
}

// P5.13: a growth that is true, and fits all measurements, is returned.
func TestTrueGrowthIsReturned(t *testing.T) {
	r := newRandom()
	for range 500 {
		s, off := anySpool(r), r.Intn(spool.MaxOff+1)
		growth := anyGrowth(r, s)
		l := anyMeasures(r, s, growth, off, r.Intn(spool.MaxMeasures+1))
		if got, e := spool.Growths(s, off, l); e != api.OK || !has(got, growth) {
			t.Fatalf("Growths(%v, %d, %v) = %v, %d without %d", s, off, l, got, e, growth)
		}
		if got, e := spool.Clash(s, off, l); e != api.ErrNone || len(got) != 0 {
			t.Fatalf("Clash(%v, %d, %v) = %v, %d", s, off, l, got, e)
		}
	}
}

// P5.13 (with P5.7): there is a clash just if no growth fits; just clashes are accepted.
func TestClashIsExact(t *testing.T) {
	r := newRandom()
	found := [3]int{} // how many clashes have so many numbers
	for range 1000 {
		s := smallSpool(r)
		off := r.Intn(5)
		var l []spool.Measure
		for range 1 + r.Intn(5) { // each one is true for a growth of its own, or nearly
			l = append(l, anyMeasures(r, s, anyGrowth(r, s), off+r.Intn(2), 1)...)
		}
		got, e := spool.Clash(s, off, l)
		if fitting := fittingOf(s, off, l); (len(fitting) == 0) != (e == api.OK) || len(fitting) > 0 && (e != api.ErrNone || len(got) != 0) {
			t.Fatalf("Clash(%v, %d, %v) = %v, %d, but the growths %v fit", s, off, l, got, e, fitting)
		}
		if e == api.OK && spool.Verify(s, off, l, got) != api.OK {
			t.Fatalf("Clash(%v, %d, %v) = %v is not accepted", s, off, l, got)
		}
		found[len(got)]++
		verifyAll(t, s, off, l)
	}
	if slices.Min(found[:]) < 100 {
		t.Fatalf("%v clashes have 0, 1 and 2 numbers", found)
	}
}

// verifyAll compares what Verify says of all lists of one or two numbers with the definition.
func verifyAll(t *testing.T, s spool.Spool, off int, l []spool.Measure) {
	t.Helper()
	for i := range l {
		for k := i; k < len(l); k++ {
			clash := slices.Compact(list(i, k))
			want := api.OK
			if len(fittingOf(s, off, chosen(l, clash))) > 0 {
				want = api.ErrProof
			}
			if e := spool.Verify(s, off, l, clash); e != want {
				t.Fatalf("Verify(%v, %d, %v, %v) = %d, want %d", s, off, l, clash, e, want)
			}
		}
	}
}

// P5.13 at the limits: among 50 measurements just one pair has no growth in common.
func TestClashAmongMany(t *testing.T) {
	r := newRandom()
	s := reel(spool.MaxCore, 1, 0, spool.MaxGrow)
	for range 100 {
		var l []spool.Measure
		for range spool.MaxMeasures {
			l = append(l, spool.Measure{Turns: 1000, Length: lengthOf(s, 500, 1000)})
		}
		want := list(r.Intn(25), 25+r.Intn(25))
		sign := 1 - 2*r.Intn(2)
		l[want[0]].Length += sign * 999000
		l[want[1]].Length -= sign * 999000
		if got, e := spool.Clash(s, 499500, l); !slices.Equal(got, want) || e != api.OK {
			t.Fatalf("Clash of many = %v, %d, want %v", got, e, want)
		}
		if got, e := spool.Growths(s, 999000, l); got != span(500, 500) || e != api.OK {
			t.Fatalf("Growths of many = %v, %d", got, e)
		}
	}
}

// G1 and G5: more measurements and smaller errors make no growth possible, and the order of measurements does not matter.
func TestMoreKnowledge(t *testing.T) {
	r := newRandom()
	for range 500 {
		s := anySpool(r)
		off := 1 + r.Intn(1000)
		l := anyMeasures(r, s, anyGrowth(r, s), off, r.Intn(6))
		before := spanOfGrowths(t, s, off, l)
		more := append(slices.Clone(l), anyMeasures(r, s, anyGrowth(r, s), off, 1)...)
		for _, after := range []api.Span{spanOfGrowths(t, s, off, more), spanOfGrowths(t, s, r.Intn(off), l)} {
			if after != (api.Span{}) && (after.Lo < before.Lo || after.Hi > before.Hi) {
				t.Fatalf("%v, error %d, %v: %v becomes %v", s, off, l, before, after)
			}
		}
		slices.Reverse(l)
		if after := spanOfGrowths(t, s, off, l); after != before {
			t.Fatalf("%v, error %d, %v: %v becomes %v in this order", s, off, l, before, after)
		}
	}
}

// spanOfGrowths returns the growths that fit measurements, or the zero value if there are none.
func spanOfGrowths(t *testing.T, s spool.Spool, off int, l []spool.Measure) api.Span {
	t.Helper()
	got, e := spool.Growths(s, off, l)
	if e != api.ErrClash {
		must(t, e)
	}
	return got
}

// everything returns the results of all calls.
func everything(s spool.Spool, growth, number, off int, times, places []int, l []spool.Measure, clash []int) []any {
	var all []any
	add := func(results ...any) { all = append(all, results...) }
	add(spool.Check(s))
	add(spool.Length(s, number))
	add(spool.Place(s, number))
	add(spool.Arrival(s, number))
	add(spool.Cut(s, growth, times))
	add(spool.Play(s, growth, places))
	add(spool.Drift(s, growth, number))
	add(spool.Govern(s, growth, number))
	add(spool.Growths(s, off, l))
	add(spool.Clash(s, off, l))
	add(spool.Verify(s, off, l, clash))
	return all
}

// R4 and P1: arguments are not changed, results share no memory, and the same arguments give the same results.
func TestNothingIsKept(t *testing.T) {
	r := newRandom()
	for range 100 {
		s := mixedSpool(r)
		growth, number := anyGrowth(r, s), between(r, 1, 1000)
		times := anyTimes(r, s, 10)
		places := listed(t, spool.Cut, s, growth, times)
		l := anyMeasures(r, s, growth, 5000, 6)
		clash := list(0, 3)
		call := func() []any { return everything(s, growth, number, 2, times, places, l, clash) }
		times2, places2, l2, clash2 := slices.Clone(times), slices.Clone(places), slices.Clone(l), slices.Clone(clash)
		first, second := call(), call()
		for _, x := range first {
			if some, ok := x.([]int); ok {
				for i := range cap(some) {
					some[:cap(some)][i] = -1
				}
			}
		}
		if !slices.Equal(times, times2) || !slices.Equal(places, places2) || !slices.Equal(l, l2) || !slices.Equal(clash, clash2) {
			t.Fatalf("%v %v %v %v are changed to %v %v %v %v", times2, places2, l2, clash2, times, places, l, clash)
		}
		if third := call(); !reflect.DeepEqual(second, third) {
			t.Fatalf("%v and then %v", second, third)
		}
	}
}

// P1 (with R2): all calls end for any arguments, and return zero values with an error.
func TestAnyArguments(t *testing.T) {
	r := newRandom()
	numbers := list(math.MinInt, math.MinInt+1, -1000000000, -1, 0, 1, 2, 3, 10, 100, 999, 1000, 1001, 100000, 100001, 1000000, 1000000000, 1<<52, 1<<62, math.MaxInt-1, math.MaxInt)
	pick := func() int { return numbers[r.Intn(len(numbers))] }
	some := func() []int {
		var l []int
		for range r.Intn(4) {
			l = append(l, pick())
		}
		return l
	}
	for range 20000 {
		s := reel(pick(), pick(), pick(), pick())
		if r.Intn(2) == 0 {
			s = mixedSpool(r)
		}
		all := everything(s, pick(), pick(), pick(), some(), some(), measures(some()...), some())
		for i, x := range all {
			e, isError := x.(api.Errno)
			if !isError || i == 0 || e == api.OK {
				continue
			}
			switch result := all[i-1].(type) {
			case api.Span:
				if result != (api.Span{}) {
					t.Fatalf("%v: result %d is %v with the error %d", s, i, result, e)
				}
			case []int:
				if len(result) != 0 {
					t.Fatalf("%v: result %d is %v with the error %d", s, i, result, e)
				}
			}
		}
	}
}
