package spool

import "pianola/api"

// last returns the last time.
func (s Spool) last() int {
	return MaxTurns * s.Ticks
}

// wound is a spool of which the growth is given.
type wound struct {
	Spool
	growth int
}

// length returns the length of the first turns.
func (w wound) length(turns int) int {
	return turns*w.Core + w.growth*turns*(turns-1)/2
}

// place returns the place at a time.
func (w wound) place(time int) int {
	turn, rest := time/w.Ticks, time%w.Ticks
	return w.length(turn) + (w.Core+turn*w.growth)*rest/w.Ticks
}

// arrival returns the arrival of a place, which is at most that at the last time.
func (w wound) arrival(place int) int {
	return first(0, w.last(), func(time int) bool { return w.place(time) >= place })
}

// governed returns how many ticks a governor lets the first turns take together.
func (w wound) governed(turns int) int {
	return w.length(turns) * w.Ticks / w.Core
}

// first returns the first number at which a condition holds, from one number on and before another one, or the latter if there is none. From the first such number on, the condition holds.
func first[N ~int](from, end N, holds func(N) bool) N {
	for from < end {
		middle := from + (end-from)/2
		if holds(middle) {
			end = middle
		} else {
			from = middle + 1
		}
	}
	return from
}

// each returns what a function makes of numbers.
func each(numbers []int, of func(int) int) []int {
	var list []int
	for _, n := range numbers {
		list = append(list, of(n))
	}
	return list
}

// asked is a spool with what is asked of it.
type asked struct {
	Spool
	result func(wound) int
}

// span returns the least and the greatest result for all growths of the spool. Whatever is asked, the result only rises or only falls as the growth becomes greater; so its ends are those for the ends of Grow.
func (a asked) span() api.Span {
	thin := a.result(wound{Spool: a.Spool, growth: a.Grow.Lo})
	thick := a.result(wound{Spool: a.Spool, growth: a.Grow.Hi})
	return api.Span{Lo: min(thin, thick), Hi: max(thin, thick)}
}
