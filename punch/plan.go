package punch

import (
	"cmp"
	"iter"
	"slices"
)

// numbered is a slot of a job with its number.
type numbered struct {
	Slot
	number int
}

// compare returns a number below 0, 0, or above 0, as a slot gets its pass before another one, is the same one, or gets it after the other one.
func (s numbered) compare(other numbered) int {
	return cmp.Or(cmp.Compare(s.From, other.From), cmp.Compare(s.number, other.number))
}

// inOrder returns the slots in the order in which they get their passes.
func (j Job) inOrder() []numbered {
	var slots []numbered
	for i, s := range j.Slots {
		slots = append(slots, numbered{Slot: s, number: i})
	}
	slices.SortFunc(slots, numbered.compare)
	return slots
}

// clashing yields the numbers of the slots that clash with a slot, in ascending order. A slot of the job is among those that clash with it.
func (j Job) clashing(s Slot) iter.Seq[int] {
	return func(yield func(int) bool) {
		for i, other := range j.Slots {
			if s.From < other.To+j.Rest && other.From < s.To+j.Rest && !yield(i) {
				return
			}
		}
	}
}

// crowd returns the numbers of the slots of a crowd, in ascending order.
func (j Job) crowd(moment int) []int {
	var numbers []int
	for i, s := range j.Slots {
		if s.From <= moment && moment < s.To+j.Rest {
			numbers = append(numbers, i)
		}
	}
	return numbers
}

// crowdCounter returns a function that counts the slots of the crowd at a moment.
func (j Job) crowdCounter() func(moment int) int {
	return func(moment int) int {
		return len(j.crowd(moment))
	}
}

// none stands for the pass of a slot that has none yet.
const none = -1

// planned is a job of which some slots have passes.
type planned struct {
	Job
	taken [MaxSlots]int // for each slot the pass that it has taken, or none
}

// unplanned returns a job of which no slot has a pass.
func unplanned(j Job) planned {
	p := planned{Job: j}
	for i := range p.taken {
		p.taken[i] = none
	}
	return p
}

// plannedBy returns a job of which each slot has the pass of a plan.
func plannedBy(j Job, plan []int) planned {
	p := unplanned(j)
	copy(p.taken[:], plan)
	return p
}

// possible reports whether no slots that clash have the same pass.
func (p planned) possible() bool {
	for i, s := range p.Slots {
		for other := range p.clashing(s) {
			if other != i && p.taken[other] == p.taken[i] {
				return false
			}
		}
	}
	return true
}

// smallest returns the smallest pass that no slot that clashes with a slot has taken.
func (p planned) smallest(s Slot) int {
	pass := 0
search:
	for {
		for other := range p.clashing(s) {
			if p.taken[other] == pass {
				pass++
				continue search
			}
		}
		break search
	}
	return pass
}

// passesOf returns the passes of a plan.
func passesOf(plan []int) int {
	passes := 0
	for _, pass := range plan {
		passes = max(passes, pass+1)
	}
	return passes
}
