package strip_test

import (
	"math"
	"math/rand"
	"reflect"
	"slices"
	"testing"

	"pianola/api"
	"pianola/strip"
)

// must fails a test if there is an error.
func must(t *testing.T, e api.Errno) {
	t.Helper()
	if e != api.OK {
		t.Fatalf("error %d", e)
	}
}

// needed returns the needed strips of a state.
func needed(t *testing.T, state []int) int {
	t.Helper()
	n, e := strip.Needed(state)
	must(t, e)
	return n
}

// weight returns the weight of a state.
func weight(t *testing.T, state []int, ahead int) int {
	t.Helper()
	n, e := strip.Weight(state, ahead)
	must(t, e)
	return n
}

// state returns the state of a record.
func state(t *testing.T, r strip.Record) []int {
	t.Helper()
	l, e := strip.State(r)
	must(t, e)
	return l
}

// P8.2 and P8.10: a tube is possible just if some mistakes explain all answers; the blocked one always is.
func TestPossibleIsExact(t *testing.T) {
	r := newRandom()
	none, some := 0, 0
	for range 3000 {
		x := anyRecord(r, strip.MaxTubes, strip.MaxTests)
		want := possibleOf(x)
		if len(want) == 0 {
			none++
		} else if len(want) < x.N {
			some++
		}
		if got, e := strip.Possible(x); !slices.Equal(got, want) || e != api.OK {
			t.Fatalf("Possible(%v) = %v, %d, want %v", x, got, e, want)
		}
		if got, want := state(t, x), stateOf(mistakesOf(x), x.Lies); !slices.Equal(got, want) {
			t.Fatalf("State(%v) = %v, want %v", x, got, want)
		}
		if x, blocked := told(r, 1+r.Intn(16), x.Lies, r.Intn(31), r.Intn(x.Lies+1)); !slices.Contains(possibleOf(x), blocked) {
			t.Fatalf("%v: the blocked tube %d is not possible", x, blocked)
		}
	}
	if none < 50 || some < 500 {
		t.Fatalf("%d records without a possible tube, and %d with some", none, some)
	}
}

// P8.3 and P8.4, P8.8 and P8.9: weight, bound and needed strips of all states are those of the reference.
func TestAllStates(t *testing.T) {
	r := newRandom()
	for lies := range strip.MaxLies + 1 {
		want := neededOf(lies)
		for _, state := range statesOf(lies, strip.MaxTubes) {
			if got := needed(t, state); got != want[keyOf(state)] {
				t.Fatalf("Needed(%v) = %d, want %d", state, got, want[keyOf(state)])
			}
			bound, e := strip.Bound(state)
			if want := boundOf(state); bound != want || e != api.OK {
				t.Fatalf("Bound(%v) = %d, %d, want %d", state, bound, e, want)
			}
			for _, ahead := range []int{0, 1, bound, r.Intn(strip.MaxAhead + 1), strip.MaxAhead} {
				if got, want := weight(t, state, ahead), weightOf(state, ahead); got != want {
					t.Fatalf("Weight(%v, %d) = %d, want %d", state, ahead, got, want)
				}
			}
		}
	}
}

// P8.4 and P8.9: no way to ask needs fewer strips, as all strips and all answers show for a few tubes, and the needed strips depend on the state alone.
func TestFewTubes(t *testing.T) {
	known := map[game]bool{}
	for lies := range strip.MaxLies + 1 {
		for tubes := 1; tubes <= 5; tubes++ {
			all := [][]int{nil}
			for range tubes {
				var more [][]int
				for _, l := range all {
					for m := range lies + 2 {
						more = append(more, append(slices.Clone(l), m))
					}
				}
				all = more
			}
			for _, mistakes := range all {
				if tubes > 4 && !slices.IsSorted(mistakes) {
					continue
				}
				if got, want := needed(t, stateOf(mistakes, lies)), neededBy(mistakes, lies, known); got != want {
					t.Fatalf("%d lies, %v: %d, want %d", lies, mistakes, got, want)
				}
			}
		}
	}
}

// leftOf returns the needed strips that are left at most after a strip, by the reference.
func leftOf(x strip.Record, l []int, all map[key]int) int {
	most := 0
	for _, answer := range []bool{false, true} {
		most = max(most, all[keyOf(stateOf(mistakesOf(with(x, l, answer)), x.Lies))])
	}
	return most
}

// allNeeded returns the needed strips of all states for each number of lies.
func allNeeded() []map[key]int {
	var all []map[key]int
	for lies := range strip.MaxLies + 1 {
		all = append(all, neededOf(lies))
	}
	return all
}

// P8.5: Next returns a good strip of possible tubes, Verify accepts just the good ones, and both tell what is left.
func TestNextAndVerifyAreExact(t *testing.T) {
	r := newRandom()
	all := allNeeded()
	good, bad := 0, 0
	for range 600 {
		x := openRecord(r, strip.MaxTubes, 12)
		before := all[x.Lies][keyOf(stateOf(mistakesOf(x), x.Lies))]
		l, left, e := strip.Next(x)
		if e != api.OK || left != leftOf(x, l, all[x.Lies]) || left >= before {
			t.Fatalf("Next(%v) = %v, %d, %d; %d before", x, l, left, e, before)
		}
		if n, e := strip.Verify(x, l); n != left || e != api.OK {
			t.Fatalf("Verify(%v, %v) = %d, %d, want %d", x, l, n, e, left)
		}
		for range 10 {
			l := anyStrip(r, x.N)
			want, code := leftOf(x, l, all[x.Lies]), api.OK
			good++
			if want >= before {
				want, code = 0, api.ErrProof
				bad++
			}
			if n, e := strip.Verify(x, l); n != want || e != code {
				t.Fatalf("Verify(%v, %v) = %d, %d, want %d, %d", x, l, n, e, want, code)
			}
		}
	}
	if good -= bad; good < 500 || bad < 500 {
		t.Fatalf("%d good strips and %d others", good, bad)
	}
}

// P8.6: Table returns the greatest number of tubes without a mistake that need no more strips.
func TestTableIsExact(t *testing.T) {
	for lies := range strip.MaxLies + 1 {
		all := neededOf(lies)
		for strips := range strip.MaxTests + 1 {
			want := 0
			for tubes := 1; tubes <= strip.MaxTubes; tubes++ {
				if all[key{tubes}] <= strips {
					want = tubes
				}
			}
			if got, e := strip.Table(lies, strips); got != want || e != api.OK {
				t.Fatalf("Table(%d, %d) = %d, %d, want %d", lies, strips, got, e, want)
			}
		}
	}
}

// P8.7: the weight for n strips is that after one answer and that after the other one, for n - 1, together.
func TestHalves(t *testing.T) {
	r := newRandom()
	for range 2000 {
		x := anyRecord(r, strip.MaxTubes, strip.MaxTests-1)
		l, ahead := anyStrip(r, x.N), 1+r.Intn(strip.MaxAhead)
		first, second := state(t, with(x, l, true)), state(t, with(x, l, false))
		if n, a, b := weight(t, state(t, x), ahead), weight(t, first, ahead-1), weight(t, second, ahead-1); n != a+b {
			t.Fatalf("%v, strip %v: the weight for %d is %d, and then %d and %d", x, l, ahead, n, a, b)
		}
	}
}

// P8.8 (G4): the needed strips are at least the bound; without lies they are the bound, and with one lie, before all tests, at most one more.
func TestBoundOfNeeded(t *testing.T) {
	for lies := range strip.MaxLies + 1 {
		for _, state := range statesOf(lies, strip.MaxTubes) {
			n := needed(t, state)
			bound, e := strip.Bound(state)
			must(t, e)
			power := 0
			for lies == 0 && 1<<power < state[0] {
				power++
			}
			switch {
			case n < bound:
				t.Fatalf("Needed(%v) = %d, but the bound is %d", state, n, bound)
			case lies == 0 && (n != bound || n != power):
				t.Fatalf("Needed(%v) = %d, but the bound is %d, and the power %d", state, n, bound, power)
			case lies == 1 && state[1] == 0 && n > bound+1:
				t.Fatalf("Needed(%v) = %d, but the bound is %d", state, n, bound)
			}
		}
	}
}

// playAll plays the strips of Next against all answers, as long as the fault is not found, and returns how many there are at most.
func playAll(t *testing.T, x strip.Record) int {
	t.Helper()
	l, left, e := strip.Next(x)
	if e == api.ErrShut || e == api.ErrClash {
		return 0
	}
	must(t, e)
	most := 1 + max(playAll(t, with(x, l, false)), playAll(t, with(x, l, true)))
	if most > left+1 {
		t.Fatalf("%v: %d are left after %v, but %d follow", x, left, l, most-1)
	}
	return most
}

// P8.9 (G7): whatever the answers are, the fault is found after the needed strips, and not before.
func TestAllAnswers(t *testing.T) {
	for _, x := range []strip.Record{
		record(1, 0), record(2, 0), record(7, 0), record(16, 0),
		record(2, 1), record(3, 1), record(4, 1), record(5, 1), record(8, 1),
		record(2, 2), record(3, 2), example(), record(4, 2, yes(0, 1), yes(0, 2)),
		record(6, 2, yes(0, 3), no(1, 2, 3), yes(3, 5)),
	} {
		if got, want := playAll(t, x), needed(t, state(t, x)); got != want {
			t.Errorf("%v: %d strips, want %d", x, got, want)
		}
	}
}

// P8.9 (G7): many tubes, with mistakes at any time, or with the answers that leave most.
func TestSurelyFound(t *testing.T) {
	r := newRandom()
	for range 60 {
		n, lies := between(r, 2, strip.MaxTubes), r.Intn(3)
		x, blocked, mistakes := record(n, lies), r.Intn(n), 0
		most := needed(t, state(t, x))
		hard := r.Intn(3) == 0
		for {
			l, left, e := strip.Next(x)
			if e == api.ErrShut || hard && e == api.ErrClash {
				break
			}
			must(t, e)
			answer := slices.Contains(l, blocked)
			if hard {
				answer = needed(t, state(t, with(x, l, true))) == left
			} else if mistakes < lies && r.Intn(4) == 0 {
				answer = !answer
				mistakes++
			}
			x = with(x, l, answer)
		}
		if len(x.Tests) > most || hard && len(x.Tests) != most {
			t.Fatalf("%v: %d strips, but %d are needed", x, len(x.Tests), most)
		}
		if got, e := strip.Possible(x); !hard && !slices.Equal(got, list(blocked)) || e != api.OK {
			t.Fatalf("%v: %v are possible, %d, but %d is blocked", x, got, e, blocked)
		}
	}
}

// P8.11: with one tube more, or one mistake less on a tube, the needed strips are not fewer.
func TestMore(t *testing.T) {
	for lies := range strip.MaxLies + 1 {
		all := map[key]int{}
		states := statesOf(lies, strip.MaxTubes)
		for _, state := range states {
			all[keyOf(state)] = needed(t, state)
		}
		for _, state := range states {
			n := all[keyOf(state)]
			for m := range state {
				more, less := keyOf(state), keyOf(state)
				if more[m]++; sum(state) < strip.MaxTubes && all[more] < n {
					t.Fatalf("Needed(%v) = %d, but %v: %d", state, n, more, all[more])
				}
				if m == 0 || state[m] == 0 {
					continue
				}
				less[m]--
				less[m-1]++
				if all[less] < n {
					t.Fatalf("Needed(%v) = %d, but %v: %d", state, n, less, all[less])
				}
			}
		}
	}
}

// P8.11: after any strip, one of both answers leaves at least the needed strips less 1.
func TestOneLess(t *testing.T) {
	r := newRandom()
	for range 500 {
		x := anyRecord(r, strip.MaxTubes, 12)
		l := anyStrip(r, x.N)
		before := needed(t, state(t, x))
		first, second := needed(t, state(t, with(x, l, true))), needed(t, state(t, with(x, l, false)))
		if max(first, second) < before-1 {
			t.Fatalf("%v: %d are needed, and %d or %d after %v", x, before, first, second, l)
		}
	}
}

// renamed returns a strip whose tubes are numbered otherwise.
func renamed(l, names []int) []int {
	var out []int
	for _, tube := range l {
		out = append(out, names[tube])
	}
	slices.Sort(out)
	return out
}

// P8.12 (G5): if tubes are numbered otherwise, and if strips are complements with the opposite answers, everything is the same.
func TestNames(t *testing.T) {
	r := newRandom()
	for range 300 {
		x := openRecord(r, strip.MaxTubes, 12)
		names := r.Perm(x.N)
		named, turned := record(x.N, x.Lies), record(x.N, x.Lies)
		for _, test := range x.Tests {
			named = with(named, renamed(test.Strip, names), test.Answer)
			turned = with(turned, complement(test.Strip, x.N), !test.Answer)
		}
		if a, b, c := state(t, x), state(t, named), state(t, turned); !slices.Equal(a, b) || !slices.Equal(a, c) {
			t.Fatalf("%v: %v; %v: %v; %v: %v", x, a, named, b, turned, c)
		}
		p, e1 := strip.Possible(x)
		q, e2 := strip.Possible(named)
		if !slices.Equal(renamed(p, names), q) || e1 != e2 {
			t.Fatalf("%v: %v; %v: %v", x, p, named, q)
		}
		l := anyStrip(r, x.N)
		if r.Intn(2) == 0 {
			l, _, _ = strip.Next(x)
		}
		first, e1 := strip.Verify(x, l)
		second, e2 := strip.Verify(named, renamed(l, names))
		third, e3 := strip.Verify(turned, complement(l, x.N))
		if first != second || first != third || e1 != e2 || e1 != e3 {
			t.Fatalf("%v, %v: %d %d, renamed %d %d, turned %d %d", x, l, first, e1, second, e2, third, e3)
		}
		_, a, _ := strip.Next(x)
		_, b, _ := strip.Next(named)
		if _, c, _ := strip.Next(turned); a != b || a != c {
			t.Fatalf("%v: %d are left, renamed %d, turned %d", x, a, b, c)
		}
	}
}

// everything returns the results of all calls.
func everything(r strip.Record, state, l []int, ahead, lies int) []any {
	var all []any
	add := func(results ...any) { all = append(all, results...) }
	add(strip.Check(r))
	add(strip.Possible(r))
	add(strip.State(r))
	add(strip.Weight(state, ahead))
	add(strip.Bound(state))
	add(strip.Needed(state))
	add(strip.Next(r))
	add(strip.Verify(r, l))
	add(strip.Table(lies, ahead))
	return all
}

// copied returns a record that shares no memory with another one.
func copied(r strip.Record) strip.Record {
	x := record(r.N, r.Lies)
	for _, test := range r.Tests {
		x = with(x, test.Strip, test.Answer)
	}
	return x
}

// R4 and P1: arguments are not changed, results share no memory, and the same arguments give the same results.
func TestNothingIsKept(t *testing.T) {
	r := newRandom()
	for range 200 {
		x := anyRecord(r, strip.MaxTubes, 12)
		numbers := state(t, x)
		l := anyStrip(r, x.N)
		if r.Intn(2) == 0 {
			l, _, _ = strip.Next(x)
		}
		call := func() []any { return everything(x, numbers, l, 9, x.Lies) }
		x2, numbers2, l2 := copied(x), slices.Clone(numbers), slices.Clone(l)
		first, second := call(), call()
		for _, result := range first {
			if some, ok := result.([]int); ok {
				for i := range cap(some) {
					some[:cap(some)][i] = -1
				}
			}
		}
		if !reflect.DeepEqual(copied(x), x2) || !slices.Equal(numbers, numbers2) || !slices.Equal(l, l2) {
			t.Fatalf("%v %v %v are changed to %v %v %v", x2, numbers2, l2, x, numbers, l)
		}
		if third := call(); !reflect.DeepEqual(second, third) {
			t.Fatalf("%v and then %v", second, third)
		}
	}
}

// anyNumbers returns numbers that are small or extreme.
func anyNumbers(r *rand.Rand, n int) []int {
	numbers := []int{math.MinInt, math.MinInt + 1, -1, 0, 1, 2, 3, 7, 15, 16, 17, 29, 30, 31, 39, 40, 41, 1 << 52, 1 << 62, math.MaxInt - 1, math.MaxInt}
	var l []int
	for range n {
		if r.Intn(3) == 0 {
			l = append(l, numbers[r.Intn(len(numbers))])
			continue
		}
		l = append(l, r.Intn(4))
	}
	return l
}

// P1 (with R2): all calls end for any arguments, and return zero values with an error.
func TestAnyArguments(t *testing.T) {
	r := newRandom()
	for range 5000 {
		x := anyRecord(r, 6, 5)
		if r.Intn(3) == 0 {
			l := anyNumbers(r, 2)
			x = with(record(l[0], l[1]), anyNumbers(r, r.Intn(4)), r.Intn(2) == 0)
		}
		numbers, l, two := anyNumbers(r, r.Intn(5)), anyNumbers(r, r.Intn(4)), anyNumbers(r, 2)
		from := 0
		all := everything(x, numbers, l, two[0], two[1])
		for i, result := range all {
			e, isError := result.(api.Errno)
			if !isError {
				continue
			}
			for _, result := range all[from:i] {
				if v := reflect.ValueOf(result); e != api.OK && !(v.IsZero() || v.Kind() == reflect.Slice && v.Len() == 0) {
					t.Fatalf("%v, %v, %v, %v: a result is %v with the error %d", x, numbers, l, two, result, e)
				}
			}
			from = i + 1
		}
	}
}
