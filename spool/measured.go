package spool

import (
	"iter"
	"slices"

	"pianola/api"
)

// measured is a spool with measurements, and their greatest error.
type measured struct {
	Spool
	off      int
	measures []Measure
}

// only returns the same spool with some of its measurements alone.
func (m measured) only(numbers []int) measured {
	var some []Measure
	for _, number := range numbers {
		some = append(some, m.measures[number])
	}
	return measured{Spool: m.Spool, off: m.off, measures: some}
}

// distinct yields the measurements with their numbers, without those that are equal to one before them: the same growths fit these.
func (m measured) distinct() iter.Seq2[int, Measure] {
	return func(yield func(int, Measure) bool) {
		for i, x := range m.measures {
			if slices.Index(m.measures, x) == i && !yield(i, x) {
				return
			}
		}
	}
}

// growths returns the growths of Grow that fit a measurement. The span is not valid if there are none.
func (m measured) growths(x Measure) api.Span {
	length := func(growth int) int { return wound{Spool: m.Spool, growth: growth}.length(x.Turns) }
	end := m.Grow.Hi + 1
	enough := first(m.Grow.Lo, end, func(growth int) bool { return length(growth) >= x.Length-m.off })
	more := first(enough, end, func(growth int) bool { return length(growth) > x.Length+m.off })
	return api.Span{Lo: enough, Hi: more - 1}
}

// common returns the growths of Grow that fit all measurements or, if there are none, a clash: a measurement that no growth fits, or else the two whose growths are the furthest apart.
func (m measured) common() (growths api.Span, clash []int) {
	growths = m.Grow
	low, high := 0, 0 // the numbers of the measurements that bound the growths
	for i, x := range m.distinct() {
		own := m.growths(x)
		if own.Lo > own.Hi {
			return api.Span{}, []int{i}
		}
		if own.Lo > growths.Lo {
			growths.Lo, low = own.Lo, i
		}
		if own.Hi < growths.Hi {
			growths.Hi, high = own.Hi, i
		}
	}
	if growths.Lo > growths.Hi {
		return api.Span{}, []int{min(low, high), max(low, high)}
	}
	return growths, nil
}
