package punch_test

import (
	"math"
	"slices"
	"testing"

	"pianola/api"
	"pianola/punch"
)

// must fails a test if there is an error.
func must(t *testing.T, e api.Errno) {
	t.Helper()
	if e != api.OK {
		t.Fatalf("error %d", e)
	}
}

// passesOf returns the plan of Passes and its passes.
func passesOf(t *testing.T, j punch.Job) ([]int, int) {
	t.Helper()
	plan, passes, e := punch.Passes(j)
	must(t, e)
	return plan, passes
}

// with returns a job with one more slot.
func with(j punch.Job, s punch.Slot) punch.Job {
	return punch.Job{Rest: j.Rest, Slots: append(slices.Clone(j.Slots), s)}
}

// P3.2 (with P3.1 and P3.3): plans, passes and crowds are those of the definitions, up to the greatest jobs.
func TestPassesAreExact(t *testing.T) {
	r := newRandom()
	for range 1500 {
		j := anyJob(r, punch.MaxSlots, 1+r.Intn(200), 8)
		plan, passes := passesOf(t, j)
		if want := planOf(j); !slices.Equal(plan, want) || passes != greatest(want) {
			t.Fatalf("Passes(%v) = %v, %d, want %v", j, plan, passes, want)
		}
		first, most := 0, 0
		for moment := range 220 {
			want := crowdOf(j, moment)
			crowd, e := punch.Crowd(j, moment)
			must(t, e)
			if !slices.Equal(crowd, want) {
				t.Fatalf("Crowd(%v, %d) = %v, want %v", j, moment, crowd, want)
			}
			if len(want) > most {
				first, most = moment, len(want)
			}
		}
		moment, e := punch.Prove(j)
		if len(j.Slots) > 0 && (e != api.OK || moment != first) {
			t.Fatalf("Prove(%v) = %d, %d, want %d", j, moment, e, first)
		}
	}
}

// P3.8: no plan has fewer passes; the crowd of Prove has as many slots, and none has more.
func TestPassesAreFewest(t *testing.T) {
	r := newRandom()
	for range 1500 {
		j := anyJob(r, 7, 1+r.Intn(20), 4)
		_, passes := passesOf(t, j)
		if fewest := fewestPasses(j, nil, len(j.Slots)+1); passes != fewest {
			t.Fatalf("Passes(%v): %d, want %d", j, passes, fewest)
		}
		for moment := -1; moment < 30; moment++ {
			if crowd, _ := punch.Crowd(j, moment); len(crowd) > passes {
				t.Fatalf("Crowd(%v, %d) = %v, but there are %d passes", j, moment, crowd, passes)
			}
		}
		if len(j.Slots) == 0 {
			continue
		}
		moment, e := punch.Prove(j)
		must(t, e)
		if crowd, _ := punch.Crowd(j, moment); len(crowd) != passes {
			t.Fatalf("Crowd(%v, %d) = %v, want %d slots", j, moment, crowd, passes)
		}
	}
}

// P3.9 (with P3.3): Verify accepts just the plans, and none has fewer passes than a crowd has slots.
func TestVerifyIsExact(t *testing.T) {
	r := newRandom()
	for range 200 {
		j := anyJob(r, 4, 1+r.Intn(15), 4)
		_, fewest := passesOf(t, j)
		for code := range 256 {
			var plan []int
			for i := range j.Slots {
				plan = append(plan, code>>(2*i)&3)
			}
			passes, e := punch.Verify(j, plan)
			switch {
			case !isPlan(j, plan):
				if e != api.ErrProof || passes != 0 {
					t.Fatalf("Verify(%v, %v) = %d, %d, want ErrProof", j, plan, passes, e)
				}
			case e != api.OK || passes != greatest(plan) || passes < fewest:
				t.Fatalf("Verify(%v, %v) = %d, %d", j, plan, passes, e)
			}
		}
	}
}

// P3.4: the plan with the number that Add returns is a plan, and with no smaller number it is one.
func TestAddIsSmallest(t *testing.T) {
	r := newRandom()
	for range 1000 {
		j := anyJob(r, 12, 1+r.Intn(30), 4)
		var plan []int
		for i := range j.Slots {
			plan = append(plan, r.Intn(punch.MaxSlots))
			for !isPlan(punch.Job{Rest: j.Rest, Slots: j.Slots[:i+1]}, plan) {
				plan[i] = r.Intn(1 + r.Intn(punch.MaxSlots))
			}
		}
		s := anySlot(r, 30)
		pass, e := punch.Add(j, plan, s)
		must(t, e)
		for number := range pass + 1 {
			if possible := isPlan(with(j, s), append(slices.Clone(plan), number)); possible != (number == pass) {
				t.Fatalf("Add(%v, %v, %v) = %d, but %d: %v", j, plan, s, pass, number, possible)
			}
		}
		if _, e := punch.Verify(with(j, s), append(slices.Clone(plan), pass)); e != api.OK {
			t.Fatalf("Verify(%v with %v, %v with %d) = %d", j, s, plan, pass, e)
		}
	}
}

// P3.10: one more slot, or more rest, makes no fewer passes; one more slot makes at most one more.
func TestMoreSlotsAndRest(t *testing.T) {
	r := newRandom()
	for range 1500 {
		j := anyJob(r, punch.MaxSlots-1, 1+r.Intn(200), 20)
		_, passes := passesOf(t, j)
		if _, more := passesOf(t, with(j, anySlot(r, 200))); more < passes || more > passes+1 {
			t.Fatalf("%v: %d passes, and %d with one more slot", j, passes, more)
		}
		longer := punch.Job{Rest: j.Rest + r.Intn(20), Slots: j.Slots}
		if _, more := passesOf(t, longer); more < passes {
			t.Fatalf("%v: %d passes, and %d with the rest %d", j, passes, more, longer.Rest)
		}
	}
}

// P3.10: slots in another order need as many passes, and slots that are shifted have the same plan.
func TestOrderAndShifts(t *testing.T) {
	r := newRandom()
	for range 1500 {
		j := anyJob(r, punch.MaxSlots, 1+r.Intn(200), 20)
		plan, passes := passesOf(t, j)
		moved := punch.Job{Rest: j.Rest, Slots: slices.Clone(j.Slots)}
		r.Shuffle(len(moved.Slots), func(i, k int) { moved.Slots[i], moved.Slots[k] = moved.Slots[k], moved.Slots[i] })
		if _, same := passesOf(t, moved); same != passes {
			t.Fatalf("%v: %d passes, %v: %d", j, passes, moved, same)
		}
		shifted := punch.Job{Rest: j.Rest}
		shift := r.Intn(api.MaxTime - 200)
		for _, s := range j.Slots {
			shifted.Slots = append(shifted.Slots, slot(s.From+shift, s.To+shift))
		}
		if same, _ := passesOf(t, shifted); !slices.Equal(same, plan) {
			t.Fatalf("%v: %v, %v: %v", j, plan, shifted, same)
		}
	}
}

// P3.11: slots that are added in the order of From have the plan of Passes.
func TestAddingInOrder(t *testing.T) {
	r := newRandom()
	for range 500 {
		j := anyJob(r, punch.MaxSlots, 1+r.Intn(200), 20)
		slices.SortStableFunc(j.Slots, func(a, b punch.Slot) int { return a.From - b.From })
		grown := punch.Job{Rest: j.Rest}
		var plan []int
		for _, s := range j.Slots {
			pass, e := punch.Add(grown, plan, s)
			must(t, e)
			grown, plan = with(grown, s), append(plan, pass)
		}
		if want, _ := passesOf(t, j); !slices.Equal(plan, want) {
			t.Fatalf("%v: added %v, want %v", j, plan, want)
		}
	}
}

// bounds returns the span of a list of lengths, which must not leave one out.
func bounds(t *testing.T, lengths []int) api.Span {
	t.Helper()
	if len(lengths) == 0 {
		return api.Span{}
	}
	s := span(lengths[0], lengths[len(lengths)-1])
	if s.Hi-s.Lo+1 != len(lengths) {
		t.Fatalf("%v is no span", lengths)
	}
	return s
}

// P3.12 (with P3.5): the lengths of Bars are those that are as stated on all days, and no others.
func TestBarsAreExact(t *testing.T) {
	r := newRandom()
	for i := range 300 {
		p := anyPaper(r, []int{3, 30, punch.MaxBar}[i%3])
		holes, bridges := lengthsOf(p, holeIs), lengthsOf(p, bridgeIs)
		hole, bridge, e := punch.Bars(p)
		if len(holes) == 0 {
			if hole != (api.Span{}) || bridge != (api.Span{}) || e != api.ErrStuck {
				t.Fatalf("Bars(%v) = %v, %v, %d, want ErrStuck", p, hole, bridge, e)
			}
			continue
		}
		must(t, e)
		if hole != bounds(t, holes) || bridge != bounds(t, bridges) {
			t.Fatalf("Bars(%v) = %v, %v, want %v, %v", p, hole, bridge, bounds(t, holes), bounds(t, bridges))
		}
	}
}

// P3.12 and P3.13 (with P3.6 and P3.7): what Bridge returns is as stated on all days, and the first of those with the fewest holes; there is nothing only if nothing holds.
func TestBridgeIsExact(t *testing.T) {
	r := newRandom()
	found := 0
	for range 400 {
		p := anyPaper(r, 12)
		p.Shut = p.Narrow + 1 + r.Intn(4)
		from := r.Intn(1000)
		s := slot(from, from+1+r.Intn(80))
		want := bridged(p, s)
		holes, e := punch.Bridge(p, s)
		if len(want) == 0 {
			if len(holes) != 0 || e != api.ErrStuck {
				t.Fatalf("Bridge(%v, %v) = %v, %d, want ErrStuck", p, s, holes, e)
			}
			continue
		}
		found++
		must(t, e)
		if !slices.Equal(holes, want) {
			t.Fatalf("Bridge(%v, %v) = %v, want %v", p, s, holes, want)
		}
		if e := punch.Holds(p, s, holes); e != api.OK {
			t.Fatalf("Holds(%v, %v, %v) = %d", p, s, holes, e)
		}
	}
	if found < 100 {
		t.Errorf("only %d slots can be bridged", found)
	}
}

// P3.12: long slots with many holes are as stated on all days.
func TestLongBridges(t *testing.T) {
	r := newRandom()
	found := 0
	for range 300 {
		p := anyPaper(r, 200)
		p.Narrow, p.Shut = 1+r.Intn(20), 20+r.Intn(60)
		s := slot(500, 500+1+r.Intn(10000))
		holes, e := punch.Bridge(p, s)
		if e == api.ErrStuck {
			continue
		}
		must(t, e)
		found++
		if holes[0].From != s.From || holes[len(holes)-1].To != s.To || len(holes) > punch.MaxHoles {
			t.Fatalf("Bridge(%v, %v) = %v", p, s, holes)
		}
		for i, h := range holes {
			if !holeIs(p, h.To-h.From) || i > 0 && !bridgeIs(p, h.From-holes[i-1].To) {
				t.Fatalf("Bridge(%v, %v) = %v, wrong at the hole %d", p, s, holes, i)
			}
		}
		if e := punch.Holds(p, s, holes); e != api.OK {
			t.Fatalf("Holds(%v, %v, %v) = %d", p, s, holes, e)
		}
	}
	if found < 100 {
		t.Errorf("only %d slots can be bridged", found)
	}
}

// P3.13 (with P3.7): of all lists of at most three holes Holds accepts just those that hold, and none with fewer holes than that of Bridge.
func TestHoldsIsExact(t *testing.T) {
	r := newRandom()
	for range 60 {
		p := anyPaper(r, 5)
		s := slot(3, 4+r.Intn(10))
		least := math.MaxInt
		if holes, e := punch.Bridge(p, s); e == api.OK {
			least = len(holes)
		}
		for cuts := range 1 << (s.To - s.From - 1) {
			ends := list(s.From)
			for at := s.From + 1; at < s.To; at++ {
				if cuts>>(at-s.From-1)&1 == 1 {
					ends = append(ends, at)
				}
			}
			holes := slots(append(ends, s.To)...)
			if len(ends)%2 == 0 || len(holes) > 3 {
				continue
			}
			checkHolds(t, p, s, holes, least)
		}
	}
}

// checkHolds compares Holds with the definition, for holes that have no gaps.
func checkHolds(t *testing.T, p punch.Paper, s punch.Slot, holes []punch.Slot, least int) {
	t.Helper()
	want := api.OK
	for i, h := range holes {
		if !holeIs(p, h.To-h.From) || i > 0 && !bridgeIs(p, h.From-holes[i-1].To) {
			want = api.ErrRule
		}
	}
	if e := punch.Holds(p, s, holes); e != want || e == api.OK && len(holes) < least {
		t.Fatalf("Holds(%v, %v, %v) = %d, want %d; the fewest holes are %d", p, s, holes, e, want, least)
	}
}

// P1: any numbers at all are taken.
func TestAnyArguments(t *testing.T) {
	r := newRandom()
	numbers := list(math.MinInt, -1, 0, 1, 2, 3, 39, 40, 41, 900, 999, 1000, 1001, 1100, 10000, api.MaxTime, api.MaxTime+1, math.MaxInt-1, math.MaxInt)
	number := func() int { return numbers[r.Intn(len(numbers))] }
	for range 3000 {
		j := punch.Job{Rest: number()}
		var plan []int
		for range r.Intn(4) {
			j.Slots = append(j.Slots, slot(number(), number()))
			plan = append(plan, number())
		}
		s, p := slot(number(), number()), paper(number(), number(), number(), number(), number())
		e := punch.Check(j)
		if _, same := punch.Crowd(j, number()); same != e {
			t.Fatalf("Crowd(%v): %d, want %d", j, same, e)
		}
		if _, _, same := punch.Passes(j); same != e {
			t.Fatalf("Passes(%v): %d, want %d", j, same, e)
		}
		punch.Prove(j)
		punch.Verify(j, plan)
		punch.Add(j, plan, s)
		punch.Bridge(p, s)
		punch.Holds(p, s, j.Slots)
	}
}

// R4 and P1: arguments stay as they are, results share no memory with anything, and the same call gives the same result.
func TestCallsShareNothing(t *testing.T) {
	j, plan, holes := job(2, 10, 12, 3, 9, 0, 4), list(2, 1, 0), slots(0, 50, 70, 120)
	for range 3 {
		best, _, _ := punch.Passes(j)
		crowd, _ := punch.Crowd(j, 3)
		divided, _ := punch.Bridge(exampleP(), slot(0, 120))
		if !slices.Equal(best, list(0, 1, 0)) || !slices.Equal(crowd, list(1, 2)) || !slices.Equal(divided, slots(0, 50, 70, 120)) {
			t.Fatalf("Passes %v, Crowd %v, Bridge %v", best, crowd, divided)
		}
		if moment, _ := punch.Prove(j); moment != 3 {
			t.Fatalf("Prove = %d", moment)
		}
		if passes, _ := punch.Verify(j, plan); passes != 3 {
			t.Fatalf("Verify = %d", passes)
		}
		if pass, _ := punch.Add(j, plan, slot(5, 20)); pass != 3 {
			t.Fatalf("Add = %d", pass)
		}
		if e := punch.Holds(exampleP(), slot(0, 120), holes); e != api.OK {
			t.Fatalf("Holds = %d", e)
		}
		best[0], crowd[0], divided[0] = 99, 99, slot(99, 99)
	}
	if !slices.Equal(j.Slots, slots(10, 12, 3, 9, 0, 4)) || !slices.Equal(plan, list(2, 1, 0)) || !slices.Equal(holes, slots(0, 50, 70, 120)) {
		t.Errorf("the arguments are %v, %v, %v", j, plan, holes)
	}
}
