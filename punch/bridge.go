package punch

import (
	"slices"

	"pianola/api"
)

const (
	maxBridged = 10000 // the greatest length of a slot that Bridge divides
	whole      = 1000  // what a number of Grow is divided by
)

// within reports whether all numbers are within bounds.
func within(bounds api.Span, numbers ...int) bool {
	for _, n := range numbers {
		if n < bounds.Lo || n > bounds.Hi {
			return false
		}
	}
	return true
}

// total returns the bounds of the length of parts together.
func total(parts ...api.Span) api.Span {
	var sum api.Span
	for _, part := range parts {
		sum.Lo += part.Lo
		sum.Hi += part.Hi
	}
	return sum
}

// length returns the length of a slot.
func (s Slot) length() int {
	return s.To - s.From
}

// isSlot reports whether the numbers of a slot are as stated.
func isSlot(s Slot) bool {
	return within(api.Span{Lo: 0, Hi: api.MaxTime}, s.From, s.To) && s.From < s.To
}

// areSlots reports whether the numbers of all slots are as stated.
func areSlots(slots []Slot) bool {
	return !slices.ContainsFunc(slots, func(s Slot) bool { return !isSlot(s) })
}

// checkPaper returns the error of a paper.
func checkPaper(p Paper) api.Errno {
	if p.Grow.Lo > p.Grow.Hi ||
		!within(api.Span{Lo: 900, Hi: 1100}, p.Grow.Lo, p.Grow.Hi) ||
		!within(api.Span{Lo: 1, Hi: MaxBar}, p.Longest, p.Narrow, p.Shut) {
		return api.ErrRange
	}
	return api.OK
}

// holeLengths returns the lengths of holes that do not tear, not even on the dampest day. The span is not valid if there are none.
func holeLengths(p Paper) api.Span {
	return api.Span{Lo: 1, Hi: p.Longest * whole / p.Grow.Hi}
}

// bridgeLengths returns the lengths of bridges that do not break on the driest day, and do not shut the valve on the dampest one. The span is not valid if there are none.
func bridgeLengths(p Paper) api.Span {
	return api.Span{
		Lo: (p.Narrow*whole + p.Grow.Lo - 1) / p.Grow.Lo,
		Hi: (p.Shut*whole - 1) / p.Grow.Hi,
	}
}

// fewestParts returns the bounds of a hole, a bridge, a hole, and so on, as few as can have a length together, or nothing if none can.
func fewestParts(length int, hole, bridge api.Span) []api.Span {
	parts := []api.Span{hole}
	for range MaxHoles {
		if within(total(parts...), length) {
			return parts
		}
		if bridge == (api.Span{}) {
			return nil
		}
		parts = append(parts, bridge, hole)
	}
	return nil
}

// longestFirst returns the holes of a slot that parts can fill. Each part in turn is as long as those after it, at their shortest, allow; a part that gets its greatest length leaves no more than they can fill.
func longestFirst(s Slot, parts []api.Span) []Slot {
	var holes []Slot
	at := s.From
	for i, part := range parts {
		end := min(at+part.Hi, s.To-total(parts[i+1:]...).Lo)
		if i%2 == 0 {
			holes = append(holes, Slot{From: at, To: end})
		}
		at = end
	}
	return holes
}

// checkHoles returns the error of holes that are not a bridged slot.
func checkHoles(s Slot, holes []Slot) api.Errno {
	if len(holes) > MaxHoles {
		return api.ErrMany
	}
	if len(holes) == 0 || !areSlots(holes) {
		return api.ErrShape
	}
	if holes[0].From != s.From || holes[len(holes)-1].To != s.To {
		return api.ErrGap
	}
	for _, bridge := range bridgesOf(holes) {
		if bridge < 1 {
			return api.ErrGap
		}
	}
	return api.OK
}

// holesOf returns the lengths of holes.
func holesOf(holes []Slot) []int {
	var lengths []int
	for _, h := range holes {
		lengths = append(lengths, h.length())
	}
	return lengths
}

// bridgesOf returns the lengths of the bridges between holes; those of holes that overlap are below 0.
func bridgesOf(holes []Slot) []int {
	var lengths []int
	for i := 1; i < len(holes); i++ {
		lengths = append(lengths, holes[i].From-holes[i-1].To)
	}
	return lengths
}
