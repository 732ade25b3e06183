package spool

import "pianola/api"

// within reports whether all numbers are within a span.
func within(span api.Span, numbers ...int) bool {
	for _, n := range numbers {
		if n < span.Lo || n > span.Hi {
			return false
		}
	}
	return true
}

// isTurns reports whether a number of turns is as stated.
func isTurns(turns int) bool {
	return within(api.Span{Lo: 0, Hi: MaxTurns}, turns)
}

// isMeasure reports whether the numbers of a measurement are as stated.
func isMeasure(m Measure) bool {
	return isTurns(m.Turns) && within(api.Span{Lo: 0, Hi: MaxLength}, m.Length)
}

// check returns the error of the spool and the growth.
func (w wound) check() api.Errno {
	if e := Check(w.Spool); e != api.OK {
		return e
	}
	if !within(w.Grow, w.growth) {
		return api.ErrRange
	}
	return api.OK
}

// checkTime returns the error of a time.
func (s Spool) checkTime(time int) api.Errno {
	if !within(api.Span{Lo: 0, Hi: s.last()}, time) {
		return api.ErrRange
	}
	return api.OK
}

// checkPlace returns the error of a place that has to arrive.
func (w wound) checkPlace(place int) api.Errno {
	switch {
	case place < 0:
		return api.ErrRange
	case place > w.length(MaxTurns):
		return api.ErrOver
	}
	return api.OK
}

// checkNotes returns the error of the spool and the growth, and of a list of which each element is checked by a function.
func (w wound) checkNotes(notes []int, checkNote func(int) api.Errno) api.Errno {
	if e := w.check(); e != api.OK {
		return e
	}
	if len(notes) > MaxNotes {
		return api.ErrMany
	}
	for _, n := range notes {
		if e := checkNote(n); e != api.OK {
			return e
		}
	}
	return api.OK
}

// check returns the error of the spool and the measurements.
func (m measured) check() api.Errno {
	if e := Check(m.Spool); e != api.OK {
		return e
	}
	if !within(api.Span{Lo: 0, Hi: MaxOff}, m.off) {
		return api.ErrRange
	}
	if len(m.measures) > MaxMeasures {
		return api.ErrMany
	}
	for _, x := range m.measures {
		if !isMeasure(x) {
			return api.ErrRange
		}
	}
	return api.OK
}

// checkClash returns the error of the numbers that are given as a clash of so many measurements.
func checkClash(clash []int, measures int) api.Errno {
	switch {
	case len(clash) == 0:
		return api.ErrEmpty
	case len(clash) > 2:
		return api.ErrMany
	}
	before := -1
	for _, number := range clash {
		if number < 0 || number >= measures {
			return api.ErrNone
		}
		if number <= before {
			return api.ErrOrder
		}
		before = number
	}
	return api.OK
}
