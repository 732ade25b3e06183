package leak_test

import (
	"math"
	"slices"
	"testing"

	"pianola/api"
	"pianola/leak"
)

// The nets of the chapter's examples.
func netN() leak.Net { return net(3, 0, 1, 2, 1, 2, 3, 0, 2, 1) }
func netP() leak.Net { return net(2, 0, 1, 2, 0, 1, 3) }

// row returns places in a row, with a tube from each to the next.
func row(leaks ...int) leak.Net {
	n := leak.Net{Places: len(leaks) + 1}
	for i, much := range leaks {
		n.Tubes = append(n.Tubes, tube(i, i+1, much))
	}
	return n
}

// full returns the largest net in which no two tubes join the same places: just the places 0 and 1, 2 and 3, 4 and 5 are not joined by one.
func full(much int) leak.Net {
	n := leak.Net{Places: 6}
	for to := range 6 {
		for from := range to / 2 * 2 {
			n.Tubes = append(n.Tubes, tube(from, to, much))
		}
	}
	return n
}

// beside returns two places with so many tubes.
func beside(tubes int) leak.Net {
	return leak.Net{Places: 2, Tubes: slices.Repeat([]leak.Tube{tube(1, 0, 10)}, tubes)}
}

// nets are nets with the errors of Check.
var nets = []struct {
	name string
	n    leak.Net
	want api.Errno
}{
	{"N", netN(), api.OK},
	{"P", netP(), api.OK},
	{"the fewest places and tubes", net(2, 1, 0, 1), api.OK},
	{"the most places", row(1, 10, 1, 10, 1), api.OK},
	{"the most tubes", beside(12), api.OK},
	{"the most of both", full(10), api.OK},
	{"connected in whatever direction", net(4, 1, 0, 1, 1, 2, 1, 3, 2, 1), api.OK},
	{"nothing", leak.Net{}, api.ErrRange},
	{"one place", net(1), api.ErrRange},
	{"too many places", row(1, 1, 1, 1, 1, 1), api.ErrRange},
	{"places below 0", net(-1), api.ErrRange},
	{"the least number of places", net(math.MinInt), api.ErrRange},
	{"the greatest number of places", net(math.MaxInt, 0, 1, 1), api.ErrRange},
	{"too few places and too many tubes", leak.Net{Places: 1, Tubes: make([]leak.Tube, 13)}, api.ErrRange},
	{"too many places and a tube that is not as stated", net(7, 0, 7, 1), api.ErrRange},
	{"too many tubes", beside(13), api.ErrMany},
	{"too many tubes that are not as stated", leak.Net{Places: 2, Tubes: make([]leak.Tube, 13)}, api.ErrMany},
	{"too many tubes, not connected", leak.Net{Places: 3, Tubes: beside(13).Tubes}, api.ErrMany},
	{"From is no place", net(2, 2, 0, 1), api.ErrNone},
	{"From is below 0", net(2, -1, 0, 1), api.ErrNone},
	{"To is no place", net(2, 0, 2, 1), api.ErrNone},
	{"To is below 0", net(2, 0, -1, 1), api.ErrNone},
	{"both are the same, which is no place", net(2, 5, 5, 0), api.ErrNone},
	{"no place, and no Leak", net(2, 0, 2, 0), api.ErrNone},
	{"extreme places", net(2, math.MinInt, math.MaxInt, 1), api.ErrNone},
	{"From is To", net(2, 0, 1, 1, 1, 1, 1), api.ErrSame},
	{"From is To, and no Leak", net(2, 0, 0, 0), api.ErrSame},
	{"no Leak", net(2, 0, 1, 0), api.ErrRange},
	{"a Leak below 0", net(2, 0, 1, -1), api.ErrRange},
	{"a Leak too much", net(2, 0, 1, 11), api.ErrRange},
	{"the least Leak", net(2, 0, 1, math.MinInt), api.ErrRange},
	{"the greatest Leak", net(2, 0, 1, math.MaxInt), api.ErrRange},
	{"the last tube", net(2, 0, 1, 1, 0, 1, 1, 0, 1, 0), api.ErrRange},
	{"the first tube decides: Leak", net(2, 0, 1, 0, 1, 1, 1, 0, 2, 1), api.ErrRange},
	{"the first tube decides: the same", net(2, 1, 1, 1, 0, 2, 1, 0, 1, 0), api.ErrSame},
	{"the first tube decides: no place", net(2, 0, 2, 1, 0, 1, 0, 1, 1, 1), api.ErrNone},
	{"a wrong tube, not connected", net(3, 0, 1, 11), api.ErrRange},
	{"no tube", net(2), api.ErrGap},
	{"a place without tubes", net(3, 0, 1, 1, 0, 1, 1), api.ErrGap},
	{"the first place without tubes", net(3, 1, 2, 1, 2, 1, 1), api.ErrGap},
	{"two parts", net(4, 0, 1, 1, 2, 3, 1), api.ErrGap},
	{"two parts of three places", net(6, 0, 2, 1, 2, 4, 1, 0, 4, 1, 1, 3, 1, 3, 5, 1), api.ErrGap},
}

// P13.1 to P13.6: all functions return the error of Check, before any other one.
func TestCheck(t *testing.T) {
	for _, c := range nets {
		if e := leak.Check(c.n); e != c.want {
			t.Errorf("%s: %d, want %d", c.name, e, c.want)
		}
		if c.want == api.OK {
			continue
		}
		for _, results := range everything(c.n, 9, 9, nil, 0, over(0, 0), nil) {
			if e := results[len(results)-1]; e != c.want {
				t.Errorf("%s: %v, want %d", c.name, results, c.want)
			}
		}
	}
}

// pairs are pairs of places of N with their errors.
var pairs = []struct {
	a, b int
	want api.Errno
}{
	{0, 2, api.OK},
	{2, 1, api.OK},
	{3, 0, api.ErrNone},
	{0, 3, api.ErrNone},
	{-1, 0, api.ErrNone},
	{0, -1, api.ErrNone},
	{3, 3, api.ErrNone},
	{-1, -1, api.ErrNone},
	{math.MinInt, math.MaxInt, api.ErrNone},
	{0, 0, api.ErrSame},
	{2, 2, api.ErrSame},
}

// P13.2 to P13.6: the errors of two places come next.
func TestPairs(t *testing.T) {
	for _, c := range pairs {
		if c.want == api.OK {
			for i, results := range everything(netN(), c.a, c.b, list(9), 0, over(0, 0), spans(2, 1)) {
				want := api.OK
				if i == 5 || i == 6 {
					want = api.ErrShape
				}
				if e := results[len(results)-1]; e != want {
					t.Errorf("%d and %d, call %d: %v, want %d", c.a, c.b, i, results, want)
				}
			}
			continue
		}
		for i, results := range everything(netN(), c.a, c.b, list(9), 0, over(0, 0), spans(2, 1)) {
			if e := results[len(results)-1]; i > 1 && e != c.want {
				t.Errorf("%d and %d, call %d: %v, want %d", c.a, c.b, i, results, c.want)
			}
		}
	}
}

// answers are nets and two places with what is known of them.
var answers = []struct {
	name        string
	n           leak.Net
	a, b        int
	trees, cuts int
	whole       api.Ratio
	tops        []int
	under       int
}{
	{"N, 0 and 2", netN(), 0, 2, 11, 5, over(11, 5), list(5, 2, 0), 5},
	{"N, 0 and 1", netN(), 0, 1, 11, 4, over(11, 4), list(4, 0, 1), 4},
	{"N, 2 and 0", netN(), 2, 0, 11, 5, over(11, 5), list(0, 3, 5), 5},
	{"P", netP(), 0, 1, 5, 1, over(5, 1), list(1, 0), 1},
	{"P, the other way", netP(), 1, 0, 5, 1, over(5, 1), list(0, 1), 1},
	{"one tube", net(2, 1, 0, 7), 0, 1, 7, 1, over(7, 1), list(1, 0), 1},
	{"the most tubes between two places", beside(12), 0, 1, 120, 1, over(120, 1), list(1, 0), 1},
	{"a row, to be divided", row(6, 3), 0, 2, 18, 9, over(2, 1), list(3, 2, 0), 3},
	{"a row of which the end hangs at the side", row(6, 3, 5), 0, 2, 90, 45, over(2, 1), list(3, 2, 0, 0), 3},
	{"a row of which both ends hang at the side", row(6, 3, 5), 1, 2, 90, 30, over(3, 1), list(1, 1, 0, 0), 1},
	{"the longest row", row(10, 10, 10, 10, 10), 0, 5, 100000, 50000, over(2, 1), list(5, 4, 3, 2, 1, 0), 5},
	{"a star with two ends", net(4, 3, 0, 1, 3, 1, 2, 3, 2, 3), 0, 2, 6, 8, over(3, 4), list(4, 1, 0, 1), 4},
	{"places that are not joined", full(1), 4, 5, 384, 192, over(2, 1), list(1, 1, 1, 1, 2, 0), 2},
	{"the largest net, not joined", full(10), 0, 1, 38400000, 1920000, over(20, 1), list(2, 0, 1, 1, 1, 1), 2},
	{"the largest net, joined", full(10), 5, 0, 38400000, 1600000, over(24, 1), list(0, 6, 5, 5, 4, 10), 10},
}

// P13.2 to P13.4: the examples, nets in which something hangs at the side, and the limits.
func TestAnswers(t *testing.T) {
	for _, c := range answers {
		if trees, e := leak.Trees(c.n); trees != c.trees || e != api.OK {
			t.Errorf("Trees of %s: %d, %d, want %d", c.name, trees, e, c.trees)
		}
		if cuts, e := leak.Cuts(c.n, c.a, c.b); cuts != c.cuts || e != api.OK {
			t.Errorf("Cuts of %s: %d, %d, want %d", c.name, cuts, e, c.cuts)
		}
		if whole, e := leak.Whole(c.n, c.a, c.b); whole != c.whole || e != api.OK {
			t.Errorf("Whole of %s: %v, %d, want %v", c.name, whole, e, c.whole)
		}
		if tops, under, e := leak.Pressures(c.n, c.a, c.b); !slices.Equal(tops, c.tops) || under != c.under || e != api.OK {
			t.Errorf("Pressures of %s: %v, %d, %d, want %v, %d", c.name, tops, under, e, c.tops, c.under)
		}
		if e := leak.Verify(c.n, c.a, c.b, c.tops, c.under, c.whole); e != api.OK {
			t.Errorf("Verify of %s: %d", c.name, e)
		}
	}
}

// proofs are pressures and wholes for the places 0 and 2 of N, with the errors of Verify.
var proofs = []struct {
	name  string
	tops  []int
	under int
	whole api.Ratio
	want  api.Errno
}{
	{"the pressures and the whole", list(5, 2, 0), 5, over(11, 5), api.OK},
	{"the whole not in lowest terms", list(5, 2, 0), 5, over(22, 10), api.OK},
	{"the pressures not in lowest terms", list(15, 6, 0), 15, over(11, 5), api.OK},
	{"the greatest numbers", list(100000000, 40000000, 0), 100000000, over(99999999, 45454545), api.OK},
	{"another whole", list(5, 2, 0), 5, over(2, 1), api.ErrProof},
	{"no whole", list(5, 2, 0), 5, over(0, 1), api.ErrProof},
	{"what is greater by little", list(5, 2, 0), 5, over(100000000, 45454545), api.ErrProof},
	{"a Num more", list(5, 2, 0), 5, over(12, 5), api.ErrProof},
	{"a Den more", list(5, 2, 0), 5, over(11, 6), api.ErrProof},
	{"another pressure", list(5, 3, 0), 5, over(11, 5), api.ErrProof},
	{"a greater pressure, with what flows then", list(5, 3, 0), 5, over(9, 5), api.ErrProof},
	{"a smaller pressure, with what flows then", list(5, 1, 0), 5, over(13, 5), api.ErrProof},
	{"the place a is not at 1", list(5, 2, 0), 6, over(11, 6), api.ErrProof},
	{"the place b is not at 0", list(5, 5, 5), 5, over(0, 1), api.ErrProof},
	{"b above 0, with what is balanced", list(10, 7, 5), 10, over(11, 10), api.ErrProof},
	{"all at 0", list(0, 0, 0), 5, over(0, 1), api.ErrProof},
	{"the other way", list(0, 3, 5), 5, over(11, 5), api.ErrProof},
	{"no list", nil, 5, over(11, 5), api.ErrShape},
	{"a place less", list(5, 2), 5, over(11, 5), api.ErrShape},
	{"a place more", list(5, 2, 0, 0), 5, over(11, 5), api.ErrShape},
	{"a place less, and all wrong", list(-1, 9), 0, over(-1, 0), api.ErrShape},
	{"under is 0", list(0, 0, 0), 0, over(11, 5), api.ErrRange},
	{"under is below 0", list(-5, -2, 0), -5, over(11, 5), api.ErrRange},
	{"under is too great", list(100000005, 40000002, 0), 100000005, over(11, 5), api.ErrRange},
	{"a number below 0", list(5, -1, 0), 5, over(11, 5), api.ErrRange},
	{"a number above under", list(5, 6, 0), 5, over(11, 5), api.ErrRange},
	{"the first number above under", list(6, 2, 0), 5, over(11, 5), api.ErrRange},
	{"the last number below 0", list(5, 2, -1), 5, over(11, 5), api.ErrRange},
	{"Den is 0", list(5, 2, 0), 5, over(11, 0), api.ErrRange},
	{"Den is below 0", list(5, 2, 0), 5, over(11, -5), api.ErrRange},
	{"both are below 0", list(5, 2, 0), 5, over(-11, -5), api.ErrRange},
	{"Num is below 0", list(5, 2, 0), 5, over(-11, 5), api.ErrRange},
	{"Den is too great", list(5, 2, 0), 5, over(5, 100000001), api.ErrRange},
	{"Num is too great", list(5, 2, 0), 5, over(100000001, 5), api.ErrRange},
	{"both are too great", list(5, 2, 0), 5, over(110000000*11, 110000000*5), api.ErrRange},
	{"the greatest number", list(5, math.MaxInt, 0), 5, over(11, 5), api.ErrRange},
	{"the least number", list(5, math.MinInt, 0), 5, over(11, 5), api.ErrRange},
	{"all the greatest", list(math.MaxInt, math.MaxInt, math.MaxInt), math.MaxInt, over(math.MaxInt, math.MaxInt), api.ErrRange},
	{"all the least", list(math.MinInt, math.MinInt, math.MinInt), math.MinInt, over(math.MinInt, math.MinInt), api.ErrRange},
}

// P13.4: Verify accepts the pressures and the whole alone, in any terms.
func TestVerify(t *testing.T) {
	for _, c := range proofs {
		if e := leak.Verify(netN(), 0, 2, c.tops, c.under, c.whole); e != c.want {
			t.Errorf("%s: %d, want %d", c.name, e, c.want)
		}
	}
}

// limits are spans for the Leaks of N, or of P if there are not three, with what Bounds returns.
var limits = []struct {
	name   string
	leaks  []api.Span
	lo, hi api.Ratio
	want   api.Errno
}{
	{"the example", spans(1, 2, 3, 3, 1, 1), over(7, 4), over(11, 5), api.OK},
	{"single numbers", spans(2, 2, 3, 3, 1, 1), over(11, 5), over(11, 5), api.OK},
	{"single numbers that are not the Leaks", spans(1, 1, 1, 1, 1, 1), over(3, 2), over(3, 2), api.OK},
	{"the widest spans", spans(1, 10, 1, 10, 1, 10), over(3, 2), over(15, 1), api.OK},
	{"the fewest places", spans(1, 10, 4, 5), over(5, 1), over(15, 1), api.OK},
	{"a span more", spans(1, 2, 3, 3, 1, 1, 1, 1), over(0, 0), over(0, 0), api.ErrShape},
	{"no span", nil, over(0, 0), over(0, 0), api.ErrShape},
	{"a span less, not valid", spans(2, 1), over(0, 0), over(0, 0), api.ErrShape},
	{"not valid", spans(2, 1, 3, 3, 1, 1), over(0, 0), over(0, 0), api.ErrRange},
	{"the last one is not valid", spans(1, 2, 3, 3, 2, 1), over(0, 0), over(0, 0), api.ErrRange},
	{"from 0 on", spans(0, 2, 3, 3, 1, 1), over(0, 0), over(0, 0), api.ErrRange},
	{"up to too much", spans(1, 2, 3, 11, 1, 1), over(0, 0), over(0, 0), api.ErrRange},
	{"above", spans(1, 2, 11, 11, 1, 1), over(0, 0), over(0, 0), api.ErrRange},
	{"below", spans(1, 2, 3, 3, 0, 0), over(0, 0), over(0, 0), api.ErrRange},
	{"extreme", spans(math.MinInt, math.MaxInt, 3, 3, 1, 1), over(0, 0), over(0, 0), api.ErrRange},
	{"extreme, not valid", spans(math.MaxInt, math.MinInt, 3, 3, 1, 1), over(0, 0), over(0, 0), api.ErrRange},
}

// P13.5: Bounds of spans, and their errors.
func TestBounds(t *testing.T) {
	for _, c := range limits {
		n, b := netN(), 2
		if len(c.leaks) == 2 {
			n, b = netP(), 1
		}
		if lo, hi, e := leak.Bounds(n, 0, b, c.leaks); lo != c.lo || hi != c.hi || e != c.want {
			t.Errorf("%s: %v, %v, %d, want %v, %v, %d", c.name, lo, hi, e, c.lo, c.hi, c.want)
		}
	}
}

// repairs are nets and two places with what Repair returns.
var repairs = []struct {
	name  string
	n     leak.Net
	a, b  int
	tube  int
	whole api.Ratio
}{
	{"N", netN(), 0, 2, 0, over(1, 1)},
	{"N, 0 and 1", netN(), 0, 1, 0, over(3, 4)},
	{"P", netP(), 0, 1, 1, over(2, 1)},
	{"the only tube", net(2, 0, 1, 5), 0, 1, 0, over(0, 1)},
	{"the first of two that are equal", net(2, 0, 1, 2, 0, 1, 3, 1, 0, 3), 0, 1, 1, over(5, 1)},
	{"the first of a row", row(6, 3, 5), 0, 3, 0, over(0, 1)},
	{"just the second one is between", row(6, 3, 5), 1, 2, 1, over(0, 1)},
	{"the end hangs at the side", net(4, 2, 3, 10, 0, 1, 4, 0, 1, 5, 1, 2, 7), 0, 1, 2, over(4, 1)},
	{"two places hang at the side by one tube", net(4, 1, 2, 1, 2, 3, 10, 2, 3, 10, 0, 1, 2, 0, 1, 2), 0, 1, 3, over(2, 1)},
	{"the tube between the middles does not matter", net(4, 1, 2, 10, 0, 1, 1, 0, 2, 2, 1, 3, 1, 2, 3, 2), 0, 3, 2, over(8, 11)},
	{"the largest net", full(10), 0, 1, 0, over(280, 17)},
}

// P13.6: the examples, tubes that are as good as another one, and places that are cut off.
func TestRepair(t *testing.T) {
	for _, c := range repairs {
		if tube, whole, e := leak.Repair(c.n, c.a, c.b); tube != c.tube || whole != c.whole || e != api.OK {
			t.Errorf("%s: %d, %v, %d, want %d, %v", c.name, tube, whole, e, c.tube, c.whole)
		}
	}
}
