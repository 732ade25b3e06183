package punch_test

import (
	"math/rand"

	"pianola/api"
	"pianola/punch"
)

// The reference follows the chapter's definitions word by word, and tries everything.

// clash reports whether one pass cannot cut two slots.
func clash(a, b punch.Slot, rest int) bool {
	return a.From < b.To+rest && b.From < a.To+rest
}

// isPlan reports whether slots that clash have different passes.
func isPlan(j punch.Job, plan []int) bool {
	for i := range j.Slots {
		for k := range i {
			if plan[i] == plan[k] && clash(j.Slots[i], j.Slots[k], j.Rest) {
				return false
			}
		}
	}
	return true
}

// greatest returns the greatest number of a plan plus 1.
func greatest(plan []int) int {
	n := 0
	for _, pass := range plan {
		n = max(n, pass+1)
	}
	return n
}

// fewestPasses returns the least number of passes of a plan: it gives the slots from i on each pass in turn.
func fewestPasses(j punch.Job, plan []int, best int) int {
	if greatest(plan) >= best {
		return best
	}
	if len(plan) == len(j.Slots) {
		return greatest(plan)
	}
	for pass := range greatest(plan) + 1 {
		longer := append(plan[:len(plan):len(plan)], pass)
		if isPlan(punch.Job{Rest: j.Rest, Slots: j.Slots[:len(longer)]}, longer) {
			best = fewestPasses(j, longer, best)
		}
	}
	return best
}

// crowdOf returns the slots of the crowd at a moment.
func crowdOf(j punch.Job, moment int) []int {
	var crowd []int
	for i, s := range j.Slots {
		if s.From <= moment && moment < s.To+j.Rest {
			crowd = append(crowd, i)
		}
	}
	return crowd
}

// planOf returns the plan of P3.2.
func planOf(j punch.Job) []int {
	plan := make([]int, len(j.Slots))
	taken := map[int]bool{}
	for range j.Slots {
		next := -1
		for i, s := range j.Slots {
			if !taken[i] && (next < 0 || s.From < j.Slots[next].From) {
				next = i
			}
		}
		plan[next] = freeOf(j, plan, j.Slots[next], taken)
		taken[next] = true
	}
	return plan
}

// freeOf returns the smallest number that no slot that was taken and clashes with s has.
func freeOf(j punch.Job, plan []int, s punch.Slot, taken map[int]bool) int {
	for number := 0; ; number++ {
		free := true
		for i, other := range j.Slots {
			free = free && !(taken[i] && clash(s, other, j.Rest) && plan[i] == number)
		}
		if free {
			return number
		}
	}
}

// everyDay reports whether something holds of a length on all days, or rather on those of them that differ by a quarter of the unit of Grow. The function gets the length and a number to compare it with, both in the same small unit.
func everyDay(p punch.Paper, length int, holds func(length, unit int) bool) bool {
	for grow := 4 * p.Grow.Lo; grow <= 4*p.Grow.Hi; grow++ {
		if !holds(length*grow, 4000) {
			return false
		}
	}
	return true
}

// holeIs and bridgeIs report whether a hole or a bridge of a length is as stated on all days.
func holeIs(p punch.Paper, length int) bool {
	return everyDay(p, length, func(length, unit int) bool { return length <= p.Longest*unit })
}

func bridgeIs(p punch.Paper, length int) bool {
	return everyDay(p, length, func(length, unit int) bool { return length >= p.Narrow*unit && length < p.Shut*unit })
}

// lengthsOf returns all lengths from 1 on that are possible; no length of a hole or a bridge is above 1112.
func lengthsOf(p punch.Paper, is func(punch.Paper, int) bool) []int {
	var lengths []int
	for length := 1; length <= 1200; length++ {
		if is(p, length) {
			lengths = append(lengths, length)
		}
	}
	return lengths
}

// fills returns a function that reports whether so many parts, of which every other one, and the last one, is a hole, can be of a length together.
func fills(holes, bridges []int) func(parts, length int) bool {
	known := map[[2]int]bool{}
	var can func(parts, length int) bool
	can = func(parts, length int) bool {
		if parts == 0 || length <= 0 {
			return parts == 0 && length == 0
		}
		key := [2]int{parts, length}
		if answer, found := known[key]; found {
			return answer
		}
		for _, first := range either(parts%2 == 1, holes, bridges) {
			if can(parts-1, length-first) {
				known[key] = true
				return true
			}
		}
		known[key] = false
		return false
	}
	return can
}

// either returns one of two lists.
func either(first bool, a, b []int) []int {
	if first {
		return a
	}
	return b
}

// bridged returns the bridged slot of P3.6, or nothing.
func bridged(p punch.Paper, s punch.Slot) []punch.Slot {
	holes, bridges := lengthsOf(p, holeIs), lengthsOf(p, bridgeIs)
	can := fills(holes, bridges)
	left := s.To - s.From
	for n := 1; n <= min(left, punch.MaxHoles); n++ {
		if !can(2*n-1, left) {
			continue
		}
		var out []punch.Slot
		at := s.From
		for parts := 2*n - 1; parts > 0; parts-- {
			list := either(parts%2 == 1, holes, bridges)
			length := list[len(list)-1]
			for !can(parts-1, s.To-at-length) {
				length--
			}
			if parts%2 == 1 {
				out = append(out, slot(at, at+length))
			}
			at += length
		}
		return out
	}
	return nil
}

// list returns a list.
func list(l ...int) []int { return l }

// span returns a span.
func span(lo, hi int) api.Span { return api.Span{Lo: lo, Hi: hi} }

// slot returns a slot.
func slot(from, to int) punch.Slot { return punch.Slot{From: from, To: to} }

// slots returns slots: from, to, from, to, and so on.
func slots(l ...int) []punch.Slot {
	var out []punch.Slot
	for i := 0; i+1 < len(l); i += 2 {
		out = append(out, slot(l[i], l[i+1]))
	}
	return out
}

// job returns a job.
func job(rest int, l ...int) punch.Job { return punch.Job{Rest: rest, Slots: slots(l...)} }

// paper returns a paper.
func paper(lo, hi, longest, narrow, shut int) punch.Paper {
	return punch.Paper{Grow: span(lo, hi), Longest: longest, Narrow: narrow, Shut: shut}
}

// exampleJ and exampleP are J and P of the chapter's examples.
func exampleJ() punch.Job { return job(2, 0, 4, 3, 9, 6, 8, 5, 7, 10, 12) }

func exampleP() punch.Paper { return paper(980, 1020, 51, 10, 21) }

// newRandom returns the numbers that all runs of the tests share.
func newRandom() *rand.Rand { return rand.New(rand.NewSource(30)) }

// anySlot returns a slot within a length of the roll.
func anySlot(r *rand.Rand, roll int) punch.Slot {
	from := r.Intn(roll)
	return slot(from, from+1+r.Intn(roll-from))
}

// anyJob returns a job of at most so many slots within a length of the roll, and with at most so much Rest.
func anyJob(r *rand.Rand, most, roll, rest int) punch.Job {
	j := punch.Job{Rest: r.Intn(rest + 1)}
	for range r.Intn(most + 1) {
		j.Slots = append(j.Slots, anySlot(r, roll))
	}
	return j
}

// anyPaper returns a paper that bears at most so much.
func anyPaper(r *rand.Rand, bar int) punch.Paper {
	lo := 900 + r.Intn(201)
	return paper(lo, lo+r.Intn(1101-lo), 1+r.Intn(bar), 1+r.Intn(bar), 1+r.Intn(bar))
}
