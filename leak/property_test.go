package leak_test

import (
	"math"
	"math/big"
	"math/rand"
	"reflect"
	"slices"
	"testing"

	"pianola/api"
	"pianola/leak"
)

// must fails a test if there is an error.
func must(t *testing.T, e api.Errno) {
	t.Helper()
	if e != api.OK {
		t.Fatalf("error %d", e)
	}
}

// trees returns the trees of a net, none if it is not connected, and one if it has a single place.
func trees(t *testing.T, n leak.Net) int {
	t.Helper()
	if n.Places == 1 {
		return 1
	}
	number, e := leak.Trees(n)
	if !isConnected(n) && e == api.ErrGap {
		return 0
	}
	must(t, e)
	return number
}

// whole returns the whole between two places.
func whole(t *testing.T, n leak.Net, a, b int) *big.Rat {
	t.Helper()
	w, e := leak.Whole(n, a, b)
	must(t, e)
	return ratio(w.Num, w.Den)
}

// pressures returns the pressures for two places.
func pressures(t *testing.T, n leak.Net, a, b int) (tops []int, under int) {
	t.Helper()
	tops, under, e := leak.Pressures(n, a, b)
	must(t, e)
	return tops, under
}

// forNets calls a function with nets of all sorts and two of their places.
func forNets(times int, call func(r *rand.Rand, n leak.Net, a, b int)) {
	r := newRandom()
	for range times {
		n := anyNet(r, leak.MaxLeak, 0)
		a, b := anyPair(r, n)
		call(r, n, a, b)
	}
}

// P13.2 and P13.3: trees, cuts and wholes are what all sets of tubes show.
func TestAllForests(t *testing.T) {
	forNets(200, func(r *rand.Rand, n leak.Net, _, _ int) {
		number, cuts := treesOf(n), cutsOf(n)
		if trees(t, n) != number {
			t.Fatalf("Trees of %v: %d, want %d", n, trees(t, n), number)
		}
		for a := range n.Places {
			for b := range n.Places {
				if a == b {
					continue
				}
				if k, e := leak.Cuts(n, a, b); k != cuts[a][b] || e != api.OK {
					t.Fatalf("Cuts of %v, %d and %d: %d, %d, want %d", n, a, b, k, e, cuts[a][b])
				}
				if whole(t, n, a, b).Cmp(ratio(number, cuts[a][b])) != 0 {
					t.Fatalf("Whole of %v, %d and %d: %v, want %d / %d", n, a, b, whole(t, n, a, b), number, cuts[a][b])
				}
			}
		}
	})
}

// P13.3 and P13.4: the pressures and the whole are those that the equations have, in lowest terms.
func TestEquations(t *testing.T) {
	forNets(1000, func(r *rand.Rand, n leak.Net, a, b int) {
		if w, e := leak.Whole(n, a, b); w != lowest(wholeOf(n, a, b)) || e != api.OK {
			t.Fatalf("Whole of %v, %d and %d: %v, %d, want %v", n, a, b, w, e, wholeOf(n, a, b))
		}
		tops, under := pressures(t, n, a, b)
		common := big.NewInt(int64(under))
		for place, want := range pressuresOf(n, a, b) {
			if ratio(tops[place], under).Cmp(want) != 0 {
				t.Fatalf("Pressures of %v, %d and %d: %v under %d, want %v at %d", n, a, b, tops, under, want, place)
			}
			common.GCD(nil, nil, common, big.NewInt(int64(tops[place])))
		}
		if under < 1 || common.Int64() != 1 || len(tops) != n.Places {
			t.Fatalf("Pressures of %v, %d and %d: %v under %d", n, a, b, tops, under)
		}
	})
}

// P13.7 (G4): Verify accepts what Pressures and Whole return, and multiples of it, but no other pressure and no other whole.
func TestProof(t *testing.T) {
	forNets(1000, func(r *rand.Rand, n leak.Net, a, b int) {
		tops, under := pressures(t, n, a, b)
		w, e := leak.Whole(n, a, b)
		must(t, e)
		must(t, leak.Verify(n, a, b, tops, under, w))
		times, most := slices.Clone(tops), between(r, 1, leak.MaxUnder/under)
		for i := range times {
			times[i] *= most
		}
		by := between(r, 1, leak.MaxUnder/max(w.Num, w.Den))
		must(t, leak.Verify(n, a, b, times, under*most, over(w.Num*by, w.Den*by)))
		for _, other := range []api.Ratio{over(w.Num+1, w.Den), over(w.Num-1, w.Den), over(w.Num, w.Den+1), over(0, 1), over(between(r, 0, 2*w.Num), between(r, 1, 2*w.Den))} {
			if e := leak.Verify(n, a, b, tops, under, other); other.Num*w.Den != w.Num*other.Den && e != api.ErrProof {
				t.Fatalf("Verify of %v, %d and %d, %v under %d: %d for %v", n, a, b, tops, under, e, other)
			}
		}
		times[r.Intn(n.Places)] = between(r, 0, under*most)
		if e := leak.Verify(n, a, b, times, under*most, w); !isMultiple(times, tops, most) && e != api.ErrProof {
			t.Fatalf("Verify of %v, %d and %d: %d for %v under %d", n, a, b, e, times, under*most)
		}
	})
}

// isMultiple reports whether numbers are those of another list, multiplied.
func isMultiple(l, of []int, by int) bool {
	return slices.EqualFunc(l, of, func(a, b int) bool { return a == b*by })
}

// P13.8: the trees of a net are its trees without a tube, and its Leak times those with its two places as one.
func TestTreesWithoutAndMerged(t *testing.T) {
	cut := 0
	forNets(500, func(r *rand.Rand, n leak.Net, _, _ int) {
		for i, one := range n.Tubes {
			without, merged := trees(t, without(n, i)), trees(t, merged(n, one.From, one.To))
			if trees(t, n) != without+one.Leak*merged {
				t.Fatalf("Trees of %v: %d, without %d: %d, with its places as one: %d", n, trees(t, n), i, without, merged)
			}
			if without == 0 {
				cut++
			}
		}
	})
	if cut < 500 {
		t.Fatalf("just %d nets are not connected", cut)
	}
}

// losses returns the sum of Leak times the square of the difference at its ends, over all tubes.
func losses(n leak.Net, tops []int, under int) *big.Rat {
	sum := new(big.Rat)
	for _, t := range n.Tubes {
		difference := tops[t.From] - tops[t.To]
		sum.Add(sum, new(big.Rat).Mul(ratio(t.Leak*difference, under), ratio(difference, under)))
	}
	return sum
}

// efforts returns the sum of the squares of flows, each divided by its Leak; a flow is a number under another one.
func efforts(n leak.Net, flows []int, under int) *big.Rat {
	sum := new(big.Rat)
	for i, t := range n.Tubes {
		sum.Add(sum, new(big.Rat).Mul(ratio(flows[i], under), ratio(flows[i], under*t.Leak)))
	}
	return sum
}

// P13.9 (G4): no pressures lose less than the whole, and the right ones lose as much.
func TestLosses(t *testing.T) {
	forNets(500, func(r *rand.Rand, n leak.Net, a, b int) {
		w := whole(t, n, a, b)
		tops, under := pressures(t, n, a, b)
		if losses(n, tops, under).Cmp(w) != 0 {
			t.Fatalf("%v, %d and %d: %v under %d lose %v, the whole is %v", n, a, b, tops, under, losses(n, tops, under), w)
		}
		for range 5 {
			place := r.Intn(n.Places)
			tops[place] = between(r, -under, 2*under)
			tops[a], tops[b] = under, 0
			if losses(n, tops, under).Cmp(w) < 0 {
				t.Fatalf("%v, %d and %d: %v under %d lose %v, the whole is %v", n, a, b, tops, under, losses(n, tops, under), w)
			}
		}
	})
}

// P13.9 (G4): no flows need less effort than 1 divided by the whole, and those of the pressures need as much.
func TestEfforts(t *testing.T) {
	forNets(500, func(r *rand.Rand, n leak.Net, a, b int) {
		least := new(big.Rat).Inv(whole(t, n, a, b))
		tops, _ := pressures(t, n, a, b)
		sum := make([]int, n.Places)
		var flows []int
		for _, one := range n.Tubes {
			flow := one.Leak * (tops[one.From] - tops[one.To])
			flows = append(flows, flow)
			sum[one.From] += flow
			sum[one.To] -= flow
		}
		for place, out := range sum {
			if place != a && place != b && out != 0 || out > sum[a] || out < -sum[a] {
				t.Fatalf("%v, %d and %d: %v flows out", n, a, b, sum)
			}
		}
		if efforts(n, flows, sum[a]).Cmp(least) != 0 {
			t.Fatalf("%v, %d and %d: the flows %v need %v, want %v", n, a, b, flows, efforts(n, flows, sum[a]), least)
		}
		clear(flows)
		for walks := 1; walks <= 5; walks++ {
			for i, through := range walk(r, n, a, b) {
				flows[i] += through
			}
			if efforts(n, flows, walks).Cmp(least) < 0 {
				t.Fatalf("%v, %d and %d: the flows %v under %d need %v, less than %v", n, a, b, flows, walks, efforts(n, flows, walks), least)
			}
		}
	})
}

// P13.10 (G1): with a greater Leak of a tube, or one more tube, no whole is smaller.
func TestMoreLeaks(t *testing.T) {
	r := newRandom()
	for range 500 {
		n := anyNet(r, leak.MaxLeak, 1)
		more, greater := with(n, anyTube(r, n.Places, leak.MaxLeak)), with(n)
		one := &greater.Tubes[r.Intn(len(n.Tubes))]
		one.Leak = between(r, one.Leak, leak.MaxLeak)
		for a := range n.Places {
			for b := range a {
				w := whole(t, n, a, b)
				if whole(t, more, a, b).Cmp(w) < 0 || whole(t, greater, a, b).Cmp(w) < 0 {
					t.Fatalf("%v, %d and %d: %v; %v: %v; %v: %v", n, a, b, w, more, whole(t, more, a, b), greater, whole(t, greater, a, b))
				}
			}
		}
	}
}

// P13.5 and P13.10 (G1, G3): the whole of each net whose Leaks are in spans lies within Bounds, which are reached; Leaks that are halves are told as twice as much.
func TestWithinBounds(t *testing.T) {
	const most = leak.MaxLeak / 2
	forNets(500, func(r *rand.Rand, n leak.Net, a, b int) {
		var leaks []api.Span
		least, greatest, half := with(n), with(n), with(n)
		for i := range n.Tubes {
			one, two := between(r, 1, most), between(r, 1, most)
			l := span(min(one, two), max(one, two))
			leaks = append(leaks, l)
			least.Tubes[i].Leak, greatest.Tubes[i].Leak = l.Lo, l.Hi
			half.Tubes[i].Leak = between(r, 2*l.Lo, 2*l.Hi)
		}
		lo, hi, e := leak.Bounds(n, a, b, leaks)
		if e != api.OK || lo != lowest(wholeOf(least, a, b)) || hi != lowest(wholeOf(greatest, a, b)) {
			t.Fatalf("Bounds of %v, %d and %d, %v: %v, %v, %d", n, a, b, leaks, lo, hi, e)
		}
		w := new(big.Rat).Mul(whole(t, half, a, b), ratio(1, 2))
		if w.Cmp(ratio(lo.Num, lo.Den)) < 0 || w.Cmp(ratio(hi.Num, hi.Den)) > 0 {
			t.Fatalf("%v has the half of %v between %d and %d, not from %v to %v", half, w, a, b, lo, hi)
		}
	})
}

// P13.6: Repair returns the first tube without which the equations have the smallest whole.
func TestRepairIsExact(t *testing.T) {
	above := 0
	forNets(1000, func(r *rand.Rand, n leak.Net, a, b int) {
		tube, w, e := leak.Repair(n, a, b)
		want, least := repairOf(n, a, b)
		if tube != want || w != lowest(least) || e != api.OK {
			t.Fatalf("Repair of %v, %d and %d: %d, %v, %d, want %d, %v", n, a, b, tube, w, e, want, least)
		}
		if least.Sign() > 0 {
			above++
		}
	})
	if above < 300 || above > 800 {
		t.Fatalf("%d are above 0", above)
	}
}

// P13.11: two tubes that join the same places can be replaced by one with the sum of their Leaks.
func TestParallel(t *testing.T) {
	r := newRandom()
	for range 1000 {
		n := anyNet(r, leak.MaxLeak/2, 1)
		i := r.Intn(len(n.Tubes))
		old := n.Tubes[i]
		young := tube(old.To, old.From, between(r, 1, leak.MaxLeak-old.Leak))
		two, one := with(n, young), with(n)
		one.Tubes[i].Leak += young.Leak
		a, b := anyPair(r, n)
		if whole(t, two, a, b).Cmp(whole(t, one, a, b)) != 0 || trees(t, two) != trees(t, one) {
			t.Fatalf("%v: %v, %v: %v", two, whole(t, two, a, b), one, whole(t, one, a, b))
		}
	}
}

// P13.11: two tubes in a row, where nothing else ends, can be replaced by one.
func TestInARow(t *testing.T) {
	// What two Leaks in a row let through together.
	rows := [][3]int{{2, 2, 1}, {4, 4, 2}, {10, 10, 5}, {3, 6, 2}, {6, 3, 2}}
	r := newRandom()
	for range 1000 {
		n := anyNet(r, leak.MaxLeak, 2)
		if n.Places == leak.MaxPlaces {
			continue
		}
		l, ends := rows[r.Intn(len(rows))], anyTube(r, n.Places, 1)
		one := with(n, tube(ends.From, ends.To, l[2]))
		two := with(n, tube(ends.From, n.Places, l[0]), tube(n.Places, ends.To, l[1]))
		two.Places++
		a, b := anyPair(r, n)
		if whole(t, two, a, b).Cmp(whole(t, one, a, b)) != 0 {
			t.Fatalf("%v: %v, %v: %v", two, whole(t, two, a, b), one, whole(t, one, a, b))
		}
	}
}

// P13.12 (G2): Leaks divided by the wholes between the tubes' ends give the number of places less 1.
func TestSumOverTubes(t *testing.T) {
	forNets(1000, func(r *rand.Rand, n leak.Net, _, _ int) {
		sum := new(big.Rat)
		for _, one := range n.Tubes {
			sum.Add(sum, new(big.Rat).Quo(ratio(one.Leak, 1), whole(t, n, one.From, one.To)))
		}
		if sum.Cmp(ratio(n.Places-1, 1)) != 0 {
			t.Fatalf("%v: %v", n, sum)
		}
	})
}

// P13.13 (G5): a detour is no better, and the way back is as good.
func TestDetours(t *testing.T) {
	forNets(500, func(r *rand.Rand, n leak.Net, a, b int) {
		if whole(t, n, a, b).Cmp(whole(t, n, b, a)) != 0 {
			t.Fatalf("%v: %v between %d and %d, %v the other way", n, whole(t, n, a, b), a, b, whole(t, n, b, a))
		}
		direct := new(big.Rat).Inv(whole(t, n, a, b))
		for over := range n.Places {
			if over == a || over == b {
				continue
			}
			detour := new(big.Rat).Inv(whole(t, n, a, over))
			detour.Add(detour, new(big.Rat).Inv(whole(t, n, over, b)))
			if direct.Cmp(detour) > 0 {
				t.Fatalf("%v: %v from %d to %d, %v by %d", n, direct, a, b, detour, over)
			}
		}
	})
}

// P13.13 (G5): for the way back each pressure is what is missing up to 1.
func TestWayBack(t *testing.T) {
	forNets(500, func(r *rand.Rand, n leak.Net, a, b int) {
		tops, under := pressures(t, n, a, b)
		back, same := pressures(t, n, b, a)
		for place := range tops {
			if tops[place]+back[place] != under || under != same {
				t.Fatalf("%v, %d and %d: %v under %d, and back %v under %d", n, a, b, tops, under, back, same)
			}
		}
	})
}

// renumbered returns a net with other numbers for its places and tubes, which are told from the other end, too.
func renumbered(n leak.Net, places, tubes []int) leak.Net {
	other := leak.Net{Places: n.Places}
	for _, i := range tubes {
		t := n.Tubes[i]
		other.Tubes = append(other.Tubes, tube(places[t.To], places[t.From], t.Leak))
	}
	return other
}

// G5: numbers of places, the order of tubes and their directions do not matter.
func TestOtherNumbers(t *testing.T) {
	forNets(500, func(r *rand.Rand, n leak.Net, a, b int) {
		places, tubes := r.Perm(n.Places), r.Perm(len(n.Tubes))
		other := renumbered(n, places, tubes)
		c, d := places[a], places[b]
		if trees(t, n) != trees(t, other) || whole(t, n, a, b).Cmp(whole(t, other, c, d)) != 0 {
			t.Fatalf("%v, %d and %d: %v; %v, %d and %d: %v", n, a, b, whole(t, n, a, b), other, c, d, whole(t, other, c, d))
		}
		tops, under := pressures(t, n, a, b)
		again, same := pressures(t, other, c, d)
		for place, top := range tops {
			if again[places[place]] != top || under != same {
				t.Fatalf("%v: %v under %d; %v: %v under %d", n, tops, under, other, again, same)
			}
		}
		_, w, e := leak.Repair(n, a, b)
		must(t, e)
		if _, v, e := leak.Repair(other, c, d); v != w || e != api.OK {
			t.Fatalf("Repair of %v: %v, of %v: %v, %d", n, w, other, v, e)
		}
	})
}

// everything returns the results of all calls with a net, those of each call as one list; the first two need no places.
func everything(n leak.Net, a, b int, tops []int, under int, whole api.Ratio, leaks []api.Span) [][]any {
	var all [][]any
	add := func(results ...any) { all = append(all, results) }
	add(leak.Check(n))
	add(leak.Trees(n))
	add(leak.Cuts(n, a, b))
	add(leak.Whole(n, a, b))
	add(leak.Pressures(n, a, b))
	add(leak.Verify(n, a, b, tops, under, whole))
	add(leak.Bounds(n, a, b, leaks))
	add(leak.Repair(n, a, b))
	return all
}

// R3: nil lists and empty ones are equivalent.
func TestNilIsEmpty(t *testing.T) {
	for places := range 4 {
		empty := leak.Net{Places: places, Tubes: []leak.Tube{}}
		a := everything(net(places), 0, 1, nil, 1, over(1, 1), nil)
		b := everything(empty, 0, 1, list(), 1, over(1, 1), []api.Span{})
		if !reflect.DeepEqual(a, b) {
			t.Errorf("%v for nil lists, %v for empty ones", a, b)
		}
	}
	a := everything(netP(), 0, 1, nil, 1, over(1, 1), nil)
	if b := everything(netP(), 0, 1, list(), 1, over(1, 1), []api.Span{}); !reflect.DeepEqual(a, b) {
		t.Errorf("%v for nil lists, %v for empty ones", a, b)
	}
}

// spoil overwrites what results keep in their memory.
func spoil(calls [][]any) {
	for _, results := range calls {
		for _, result := range results {
			if l, ok := result.([]int); ok {
				for i := range cap(l) {
					l[:cap(l)][i] = -1
				}
			}
		}
	}
}

// R4 and P1: arguments are not changed, nor is what lies behind them in their memory; results share no memory, and the same arguments give the same results.
func TestNothingIsKept(t *testing.T) {
	forNets(300, func(r *rand.Rand, n leak.Net, a, b int) {
		tubes := append(slices.Clone(n.Tubes), tube(7, 8, 9))
		n.Tubes = tubes[:len(n.Tubes)]
		tops, under := pressures(t, n, a, b)
		tops = append(tops, 70)
		leaks := append(slices.Repeat(spans(2, 4), len(n.Tubes)), span(80, 90))
		copies := []any{slices.Clone(tubes), slices.Clone(tops), slices.Clone(leaks)}
		call := func() [][]any {
			return everything(n, a, b, tops[:len(tops)-1], under, over(1, 2), leaks[:len(n.Tubes)])
		}
		first, second := call(), call()
		spoil(first)
		if !reflect.DeepEqual(copies, []any{tubes, tops, leaks}) {
			t.Fatalf("arguments are changed: %v, %v, %v", tubes, tops, leaks)
		}
		if third := call(); !reflect.DeepEqual(second, third) {
			t.Fatalf("%v and then %v", second, third)
		}
	})
}

// spoilt returns a number or, now and then, another one, which can be extreme.
func spoilt(r *rand.Rand, number int) int {
	numbers := list(math.MinInt, math.MinInt+1, -1<<32, -1, 0, 1, 2, 6, 7, 10, 11, leak.MaxUnder, leak.MaxUnder+1, 1<<32, 1<<62, math.MaxInt-1, math.MaxInt)
	if r.Intn(40) == 0 {
		return numbers[r.Intn(len(numbers))]
	}
	return number
}

// anyCalls returns the results of all calls with arguments that are right but for a few numbers.
func anyCalls(t *testing.T, r *rand.Rand) [][]any {
	t.Helper()
	n := anyNet(r, leak.MaxLeak, 0)
	a, b := anyPair(r, n)
	w, e := leak.Whole(n, a, b)
	must(t, e)
	tops, under := pressures(t, n, a, b)
	for i := range tops {
		tops[i] = spoilt(r, tops[i])
	}
	var leaks []api.Span
	for i, one := range n.Tubes {
		leaks = append(leaks, span(spoilt(r, one.Leak), spoilt(r, one.Leak)))
		n.Tubes[i] = tube(spoilt(r, one.From), spoilt(r, one.To), spoilt(r, one.Leak))
	}
	if r.Intn(8) == 0 {
		tops, leaks, n.Tubes = tops[1:], leaks[1:], with(n, n.Tubes...).Tubes
	}
	n.Places = spoilt(r, n.Places)
	return everything(n, spoilt(r, a), spoilt(r, b), tops, spoilt(r, under), over(spoilt(r, w.Num), spoilt(r, w.Den)), leaks)
}

// P1 (with R2): all calls end for any arguments, and return zero values with an error.
func TestAnyArguments(t *testing.T) {
	r := newRandom()
	count := make(map[api.Errno]int)
	for range 5000 {
		for _, results := range anyCalls(t, r) {
			last := len(results) - 1
			e := results[last].(api.Errno)
			count[e]++
			if e == api.OK {
				continue
			}
			for _, result := range results[:last] {
				if v := reflect.ValueOf(result); !v.IsZero() && !(v.Kind() == reflect.Slice && v.Len() == 0) {
					t.Fatalf("a result is %v with the error %d", result, e)
				}
			}
		}
	}
	for _, e := range []api.Errno{api.OK, api.ErrRange, api.ErrMany, api.ErrShape, api.ErrNone, api.ErrGap, api.ErrProof, api.ErrSame} {
		if count[e] < 50 {
			t.Fatalf("just %d calls have the error %d", count[e], e)
		}
	}
}
