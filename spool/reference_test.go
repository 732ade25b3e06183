package spool_test

import (
	"math/rand"
	"slices"

	"pianola/api"
	"pianola/spool"
)

// The reference follows the chapter's definitions word by word: it winds up turn after turn, and tries all growths and times.

// lengthOf returns what the first turns wind up together.
func lengthOf(s spool.Spool, growth, turns int) int {
	length := 0
	for turn := range turns {
		length += s.Core + turn*growth
	}
	return length
}

// placeOf returns the place at a time.
func placeOf(s spool.Spool, growth, time int) int {
	turn := time / s.Ticks
	part := (s.Core + turn*growth) * (time - turn*s.Ticks)
	return lengthOf(s, growth, turn) + (part-part%s.Ticks)/s.Ticks
}

// placesOf returns the places at all times.
func placesOf(s spool.Spool, growth int) []int {
	var places []int
	start := 0
	for turn := range spool.MaxTurns {
		for tick := range s.Ticks {
			places = append(places, start+(s.Core+turn*growth)*tick/s.Ticks)
		}
		start += s.Core + turn*growth
	}
	return append(places, start)
}

// arrivalOf returns the first time whose place is at least a given one, or -1.
func arrivalOf(places []int, place int) int {
	return slices.IndexFunc(places, func(p int) bool { return p >= place })
}

// growthsOf returns the growths of a span.
func growthsOf(grow api.Span) []int {
	var growths []int
	for growth := grow.Lo; growth <= grow.Hi; growth++ {
		growths = append(growths, growth)
	}
	return growths
}

// spanOf returns the span from the least to the greatest result for all growths.
func spanOf(grow api.Span, result func(growth int) int) api.Span {
	var results []int
	for _, growth := range growthsOf(grow) {
		results = append(results, result(growth))
	}
	return span(slices.Min(results), slices.Max(results))
}

// fits reports whether a growth fits all measurements.
func fits(s spool.Spool, growth, off int, l []spool.Measure) bool {
	for _, m := range l {
		if n := lengthOf(s, growth, m.Turns) - m.Length; n > off || -n > off {
			return false
		}
	}
	return true
}

// fittingOf returns all growths of Grow that fit all measurements.
func fittingOf(s spool.Spool, off int, l []spool.Measure) []int {
	var fitting []int
	for _, growth := range growthsOf(s.Grow) {
		if fits(s, growth, off, l) {
			fitting = append(fitting, growth)
		}
	}
	return fitting
}

// chosen returns the measurements with given numbers.
func chosen(l []spool.Measure, numbers []int) []spool.Measure {
	var out []spool.Measure
	for _, number := range numbers {
		out = append(out, l[number])
	}
	return out
}

// list returns a list.
func list(l ...int) []int { return l }

// span returns a span.
func span(lo, hi int) api.Span { return api.Span{Lo: lo, Hi: hi} }

// reel returns a spool.
func reel(core, ticks, lo, hi int) spool.Spool {
	return spool.Spool{Core: core, Ticks: ticks, Grow: span(lo, hi)}
}

// example is S of the chapter's examples.
func example() spool.Spool { return reel(100, 10, 3, 5) }

// largest is a spool with the greatest numbers.
func largest() spool.Spool { return reel(100000, 100000, 1000, 1000) }

// measures returns measurements: turns, length, turns, length, and so on.
func measures(l ...int) []spool.Measure {
	var out []spool.Measure
	for i := 0; i+1 < len(l); i += 2 {
		out = append(out, spool.Measure{Turns: l[i], Length: l[i+1]})
	}
	return out
}

// newRandom returns the numbers that all runs of the tests share.
func newRandom() *rand.Rand { return rand.New(rand.NewSource(50)) }

// between returns a number from a least to a greatest one.
func between(r *rand.Rand, least, greatest int) int {
	return least + r.Intn(greatest-least+1)
}

// smallSpool returns a spool with small numbers.
func smallSpool(r *rand.Rand) spool.Spool {
	core, lo := between(r, 1, 30), r.Intn(20)
	return reel(core, between(r, 1, min(core, 7)), lo, lo+r.Intn(6))
}

// anySpool returns a spool with any numbers.
func anySpool(r *rand.Rand) spool.Spool {
	core, lo := between(r, 1, spool.MaxCore), between(r, 0, spool.MaxGrow)
	return reel(core, between(r, 1, core), lo, between(r, lo, spool.MaxGrow))
}

// mixedSpool returns a spool with small numbers, or with any.
func mixedSpool(r *rand.Rand) spool.Spool {
	if r.Intn(2) == 0 {
		return smallSpool(r)
	}
	return anySpool(r)
}

// anyGrowth returns a growth of a spool.
func anyGrowth(r *rand.Rand, s spool.Spool) int {
	return between(r, s.Grow.Lo, s.Grow.Hi)
}

// anyTime returns a time of a spool; it often is the beginning or the end of a turn.
func anyTime(r *rand.Rand, s spool.Spool) int {
	last := spool.MaxTurns * s.Ticks
	switch r.Intn(4) {
	case 0:
		return s.Ticks * r.Intn(spool.MaxTurns+1)
	case 1:
		return s.Ticks*between(r, 1, spool.MaxTurns) - 1
	}
	return r.Intn(last + 1)
}

// anyTimes returns times of a spool.
func anyTimes(r *rand.Rand, s spool.Spool, n int) []int {
	var times []int
	for range n {
		times = append(times, anyTime(r, s))
	}
	return times
}

// anyMeasures returns measurements of a spool that has a growth; they are off by at most so much, as far as numbers can be.
func anyMeasures(r *rand.Rand, s spool.Spool, growth, off, n int) []spool.Measure {
	var l []spool.Measure
	for range n {
		turns := r.Intn(spool.MaxTurns + 1)
		if r.Intn(2) == 0 {
			turns = r.Intn(8)
		}
		length := lengthOf(s, growth, turns)
		length += between(r, -min(off, length), min(off, spool.MaxLength-length))
		l = append(l, spool.Measure{Turns: turns, Length: length})
	}
	return l
}
