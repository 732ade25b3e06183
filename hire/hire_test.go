package hire_test

import (
	"math"
	"slices"
	"testing"

	"pianola/api"
	"pianola/hire"
)

// The halls of the chapter's examples.
func hallH() hire.Hall { return hall(1, 0, 2, 5, 2, 4, 7, 3, 5, 4) }
func hallG() hire.Hall { return hall(2, 0, 2, 5, 2, 4, 7, 3, 5, 4) }

// equalRequests returns a hall with so many requests for the same days.
func equalRequests(machines, requests int) hire.Hall {
	return hire.Hall{Machines: machines, Requests: slices.Repeat([]hire.Request{request(3, 7, 2)}, requests)}
}

// halls are halls with the errors of Check.
var halls = []struct {
	name string
	h    hire.Hall
	want api.Errno
}{
	{"H", hallH(), api.OK},
	{"no request", hall(1), api.OK},
	{"the most machines", hall(4), api.OK},
	{"the bounds of a request", hall(4, 0, 59, 1000000, 0, 0, 1, 59, 59, 1), api.OK},
	{"the most requests", equalRequests(1, 18), api.OK},
	{"nothing", hire.Hall{}, api.ErrRange},
	{"a machine more", hall(5), api.ErrRange},
	{"machines below 0", hall(-1), api.ErrRange},
	{"the least number of machines", hall(math.MinInt), api.ErrRange},
	{"the greatest number of machines", hall(math.MaxInt), api.ErrRange},
	{"no machine and too many requests", equalRequests(0, 19), api.ErrRange},
	{"too many machines and too many requests", equalRequests(5, 19), api.ErrRange},
	{"too many requests", equalRequests(4, 19), api.ErrMany},
	{"too many requests that are not as stated", hire.Hall{Machines: 1, Requests: make([]hire.Request, 19)}, api.ErrMany},
	{"a day below 0", hall(1, -1, 0, 1), api.ErrRange},
	{"both days below 0", hall(1, -2, -1, 1), api.ErrRange},
	{"a day above the bound", hall(1, 59, 60, 1), api.ErrRange},
	{"both days above the bound", hall(1, 60, 60, 1), api.ErrRange},
	{"the last day before the first one", hall(1, 2, 1, 1), api.ErrRange},
	{"it pays nothing", hall(1, 0, 0, 0), api.ErrRange},
	{"it pays less than nothing", hall(1, 0, 0, -1), api.ErrRange},
	{"it pays too much", hall(1, 0, 0, 1000001), api.ErrRange},
	{"the last request", hall(1, 0, 0, 1, 0, 1, 1, 1, 0, 1), api.ErrRange},
	{"extreme days", hall(1, math.MinInt, math.MaxInt, 1), api.ErrRange},
	{"the greatest last day", hall(1, 0, math.MaxInt, 1), api.ErrRange},
	{"the least last day", hall(1, 0, math.MinInt, 1), api.ErrRange},
	{"it pays the greatest number", hall(1, 0, 0, math.MaxInt), api.ErrRange},
	{"it pays the least number", hall(1, 0, 0, math.MinInt), api.ErrRange},
}

// P12.1 to P12.6: all functions return the error of Check, before any other one.
func TestCheck(t *testing.T) {
	for _, c := range halls {
		if e := hire.Check(c.h); e != c.want {
			t.Errorf("%s: %d, want %d", c.name, e, c.want)
		}
		if c.want == api.OK {
			continue
		}
		need, pays, a := hire.Need(c.h, list(99))
		machines, b := hire.Assign(c.h, list(-1))
		choice, brings, d := hire.Best(c.h)
		prices, f := hire.Prices(c.h)
		bound, g := hire.Bound(c.h, nil)
		i := hire.Verify(c.h, nil, -1)
		kinds, j := hire.Kinds(c.h)
		least, k := hire.Least(c.h, 1, 0)
		if l := []api.Errno{a, b, d, f, g, i, j, k}; !slices.Equal(l, errors(c.want, 8)) {
			t.Errorf("%s: %v, want %d", c.name, l, c.want)
		}
		if slices.ContainsFunc(list(need, pays, brings, bound, least), func(n int) bool { return n != 0 }) || len(machines)+len(choice)+len(prices)+len(kinds) > 0 {
			t.Errorf("%s: %d %d %v %v %d %v %d %v %d", c.name, need, pays, machines, choice, brings, prices, bound, kinds, least)
		}
	}
}

// P12.2: Need returns the need of a choice and what it brings, Assign an assignment, or their errors in their order.
func TestNeedAndAssign(t *testing.T) {
	h := hall(2, 0, 2, 5, 2, 4, 7, 3, 5, 4, 0, 5, 1, 59, 59, 1000000)
	for _, c := range []struct {
		name       string
		h          hire.Hall
		choice     []int
		need, pays int
		e, full    api.Errno // the errors of Need and of Assign
	}{
		{"two that meet", hallH(), list(0, 1), 2, 12, api.OK, api.ErrOver},
		{"two that do not meet", hallH(), list(0, 2), 1, 9, api.OK, api.OK},
		{"none", hallH(), nil, 0, 0, api.OK, api.OK},
		{"none, as an empty list", hallH(), list(), 0, 0, api.OK, api.OK},
		{"none of none", hall(1), nil, 0, 0, api.OK, api.OK},
		{"all of G", hallG(), list(0, 1, 2), 2, 16, api.OK, api.OK},
		{"three that meet", h, list(0, 1, 3), 3, 13, api.OK, api.ErrOver},
		{"three of which two each meet on a day", h, list(0, 2, 3), 2, 10, api.OK, api.OK},
		{"one for the last day", h, list(2, 4), 1, 1000004, api.OK, api.OK},
		{"all", h, list(0, 1, 2, 3, 4), 3, 1000017, api.OK, api.ErrOver},
		{"one", h, list(3), 1, 1, api.OK, api.OK},
		{"as many as there can be", equalRequests(4, 18), list(0, 1, 2, 3, 4, 5, 6, 7, 8, 9, 10, 11, 12, 13, 14, 15, 16, 17), 18, 36, api.OK, api.ErrOver},
		{"as many as there are machines", equalRequests(4, 18), list(1, 5, 9, 17), 4, 8, api.OK, api.OK},
		{"one more than there are machines", equalRequests(3, 18), list(1, 5, 9, 17), 4, 8, api.OK, api.ErrOver},
		{"the first day after another one's last day", hall(1, 0, 2, 1, 3, 5, 1), list(0, 1), 1, 2, api.OK, api.OK},
		{"the last day of another one", hall(1, 0, 3, 1, 3, 5, 1), list(0, 1), 2, 2, api.OK, api.ErrOver},
		{"told from the last one on", hall(2, 4, 6, 1, 2, 4, 1, 0, 2, 1), list(0, 1, 2), 2, 3, api.OK, api.OK},
		{"a machine that is free between two others", hall(2, 0, 9, 1, 10, 19, 1, 0, 4, 1, 5, 14, 1, 15, 19, 1), list(0, 1, 2, 3, 4), 2, 5, api.OK, api.OK},
		{"no request", hallH(), list(3), 0, 0, api.ErrNone, api.ErrNone},
		{"no request before 0", hallH(), list(-1, 0), 0, 0, api.ErrNone, api.ErrNone},
		{"no request at all", hall(1), list(0), 0, 0, api.ErrNone, api.ErrNone},
		{"no request, and in the wrong order", hallH(), list(0, -1), 0, 0, api.ErrNone, api.ErrNone},
		{"no request before the wrong order", hallH(), list(3, 1, 0), 0, 0, api.ErrNone, api.ErrNone},
		{"the wrong order before what is no request", hallH(), list(1, 0, 3), 0, 0, api.ErrOrder, api.ErrOrder},
		{"twice", hallH(), list(1, 1), 0, 0, api.ErrOrder, api.ErrOrder},
		{"the wrong order, and more than there are machines", hallH(), list(0, 1, 0), 0, 0, api.ErrOrder, api.ErrOrder},
		{"the greatest number", hallH(), list(math.MaxInt), 0, 0, api.ErrNone, api.ErrNone},
		{"the least number", hallH(), list(math.MinInt), 0, 0, api.ErrNone, api.ErrNone},
	} {
		if need, pays, e := hire.Need(c.h, c.choice); need != c.need || pays != c.pays || e != c.e {
			t.Errorf("%s: Need %d, %d, %d, want %d, %d, %d", c.name, need, pays, e, c.need, c.pays, c.e)
		}
		machines, e := hire.Assign(c.h, c.choice)
		if e != c.full || e != api.OK && len(machines) > 0 || e == api.OK && !isAssignment(c.h, c.choice, machines) {
			t.Errorf("%s: Assign %v, %d, want %d", c.name, machines, e, c.full)
		}
	}
}

// P12.3 and P12.5: Best returns a best choice and what it brings, Kinds what the requests are.
func TestBestAndKinds(t *testing.T) {
	for _, c := range []struct {
		name  string
		h     hire.Hall
		pays  int
		only  []int // the only best choice, if there is just one
		kinds []int
	}{
		{"H", hallH(), 9, list(0, 2), list(2, 0, 2)},
		{"G", hallG(), 16, list(0, 1, 2), list(2, 2, 2)},
		{"no request", hall(4), 0, list(), nil},
		{"one request", hall(1, 59, 59, 1), 1, list(0), list(2)},
		{"the bounds", hall(1, 0, 59, 1000000), 1000000, list(0), list(2)},
		{"a long one for more than two short ones", hall(1, 0, 9, 8, 0, 4, 4, 5, 9, 3), 8, list(0), list(2, 0, 0)},
		{"a long one for less than two short ones", hall(1, 0, 9, 8, 0, 4, 4, 5, 9, 5), 9, list(1, 2), list(0, 2, 2)},
		{"a long one for as much as two short ones", hall(1, 0, 9, 8, 0, 4, 4, 5, 9, 4), 8, nil, list(1, 1, 1)},
		{"the days of two meet on one day only", hall(1, 0, 5, 3, 5, 9, 2), 3, list(0), list(2, 0)},
		{"the days of two do not meet", hall(1, 0, 4, 3, 5, 9, 2), 5, list(0, 1), list(2, 2)},
		{"equal ones", equalRequests(4, 18), 8, nil, slices.Repeat(list(1), 18)},
		{"as many equal ones as machines", equalRequests(4, 4), 8, list(0, 1, 2, 3), list(2, 2, 2, 2)},
		{"one better than equal ones", hall(1, 0, 0, 3, 0, 0, 3, 0, 0, 4), 4, list(2), list(0, 0, 2)},
		{"one worse than equal ones", hall(2, 0, 0, 3, 0, 0, 2, 0, 0, 3), 6, list(0, 2), list(2, 0, 2)},
		{"one in every best choice, others in some", hall(2, 0, 3, 9, 0, 1, 2, 1, 3, 2), 11, nil, list(2, 1, 1)},
		{"all kinds", hall(1, 0, 1, 5, 0, 0, 1, 3, 4, 2, 4, 5, 2), 7, nil, list(2, 0, 1, 1)},
		{"a way back over three requests", hall(1, 0, 3, 4, 3, 6, 4, 6, 9, 4, 9, 12, 4), 8, nil, list(1, 1, 1, 1)},
		{"a chain of which each second one is best", hall(1, 0, 3, 4, 3, 6, 7, 6, 9, 4), 8, list(0, 2), list(2, 0, 2)},
		{"the second machine changes the way of the first one", hall(2, 0, 9, 5, 10, 19, 5, 0, 4, 3, 5, 14, 3, 15, 19, 3), 19, list(0, 1, 2, 3, 4), list(2, 2, 2, 2, 2)},
		{"the second machine takes from the first one", hall(2, 0, 4, 6, 3, 9, 6, 3, 4, 5, 0, 2, 2, 5, 9, 2), 16, nil, nil},
	} {
		choice, pays, e := hire.Best(c.h)
		kinds, f := hire.Kinds(c.h)
		if e != api.OK || pays != c.pays || c.only != nil && !slices.Equal(choice, c.only) || needOf(c.h, choice) > c.h.Machines || paysOf(c.h, choice) != pays {
			t.Errorf("%s: Best %v, %d, %d, want %v, %d", c.name, choice, pays, e, c.only, c.pays)
		}
		best, _ := bestOf(c.h)
		if c.kinds == nil {
			c.kinds = kindsOf(c.h, best)
		}
		if f != api.OK || !slices.Equal(kinds, c.kinds) {
			t.Errorf("%s: Kinds %v, %d, want %v", c.name, kinds, f, c.kinds)
		}
		if !slices.ContainsFunc(best, func(l []int) bool { return slices.Equal(l, choice) }) {
			t.Errorf("%s: Best %v, but the best choices are %v", c.name, choice, best)
		}
	}
}

// P12.4: Prices returns prices that prove what a best choice brings.
func TestPrices(t *testing.T) {
	for _, c := range []struct {
		name string
		h    hire.Hall
		want int
	}{
		{"H", hallH(), 9},
		{"G", hallG(), 16},
		{"no request", hall(4), 0},
		{"a request for all days", hall(1, 0, 59, 1000000), 1000000},
		{"two requests for all days", hall(1, 0, 59, 1000000, 0, 59, 999999), 1000000},
		{"the most that is brought", hire.Hall{Machines: 4, Requests: slices.Repeat([]hire.Request{request(0, 59, hire.MaxPay)}, 18)}, 4000000},
		{"as many as machines", equalRequests(4, 4), 8},
		{"one more than machines", equalRequests(4, 5), 8},
		{"the last day", hall(1, 59, 59, 3, 59, 59, 2), 3},
	} {
		prices, e := hire.Prices(c.h)
		if e != api.OK || len(prices) != hire.MaxDays || slices.Min(prices) < 0 || slices.Max(prices) > hire.MaxPrice || boundOf(c.h, prices) != c.want {
			t.Errorf("%s: Prices %v, %d", c.name, prices, e)
		}
		if e, f := hire.Verify(c.h, prices, c.want), hire.Verify(c.h, prices, c.want-1); e != api.OK || c.want > 0 && f != api.ErrProof {
			t.Errorf("%s: Verify %d, %d", c.name, e, f)
		}
	}
}

// P12.4: Bound returns the bound of prices, and Verify compares it, or they return their errors in their order.
func TestBoundAndVerify(t *testing.T) {
	for _, c := range []struct {
		name   string
		h      hire.Hall
		prices []int
		pays   int
		bound  int
		e      api.Errno // the error of Bound
		proof  api.Errno // that of Verify
	}{
		{"example", hallH(), priced(2, 5, 3, 4), 9, 9, api.OK, api.OK},
		{"example with less", hallH(), priced(2, 5, 3, 4), 8, 9, api.OK, api.ErrProof},
		{"example with more", hallH(), priced(2, 5, 3, 4), 10, 9, api.OK, api.OK},
		{"example with two machines", hallG(), priced(2, 5, 3, 4), 17, 18, api.OK, api.ErrProof},
		{"no prices", hallH(), priced(), 16, 16, api.OK, api.OK},
		{"a price of days that nobody requests", hallG(), priced(6, 3), 22, 22, api.OK, api.OK},
		{"a price on the first day", hallH(), priced(0, 3), 16, 16, api.OK, api.OK},
		{"a price on the last day of one", hallH(), priced(5, 3), 16, 16, api.OK, api.OK},
		{"a price above what one pays", hallH(), priced(0, 7), 18, 18, api.OK, api.OK},
		{"the last day of all", hall(1, 59, 59, 3), priced(59, 2), 3, 3, api.OK, api.OK},
		{"the greatest prices", hall(4, 0, 59, 1000000), slices.Repeat(list(1000000000), 60), math.MaxInt, 240000000000, api.OK, api.OK},
		{"nothing is proved for 0", hall(4), priced(), 0, 0, api.OK, api.OK},
		{"0 is not proved", hall(1, 0, 0, 1), priced(), 0, 1, api.OK, api.ErrProof},
		{"an amount below 0", hallH(), priced(2, 5, 3, 4), -1, 9, api.OK, api.ErrRange},
		{"the least amount", hall(4), priced(), math.MinInt, 0, api.OK, api.ErrRange},
		{"nil", hallH(), nil, 9, 0, api.ErrShape, api.ErrShape},
		{"empty", hallH(), list(), 9, 0, api.ErrShape, api.ErrShape},
		{"a price too few", hallH(), make([]int, 59), 9, 0, api.ErrShape, api.ErrShape},
		{"a price too many", hallH(), make([]int, 61), 9, 0, api.ErrShape, api.ErrShape},
		{"a price too many, below 0", hallH(), slices.Repeat(list(-1), 61), -1, 0, api.ErrShape, api.ErrShape},
		{"a price below 0", hallH(), priced(0, -1), 9, 0, api.ErrRange, api.ErrRange},
		{"a price above the bound", hallH(), priced(59, 1000000001), -1, 0, api.ErrRange, api.ErrRange},
		{"the greatest price", hallH(), priced(7, math.MaxInt), 9, 0, api.ErrRange, api.ErrRange},
		{"the least price", hallH(), priced(7, math.MinInt), 9, 0, api.ErrRange, api.ErrRange},
	} {
		if bound, e := hire.Bound(c.h, c.prices); bound != c.bound || e != c.e {
			t.Errorf("%s: Bound %d, %d, want %d, %d", c.name, bound, e, c.bound, c.e)
		}
		if e := hire.Verify(c.h, c.prices, c.pays); e != c.proof {
			t.Errorf("%s: Verify %d, want %d", c.name, e, c.proof)
		}
	}
}

// P12.6: Least returns what a further request has to pay, or its errors in their order.
func TestLeast(t *testing.T) {
	for _, c := range []struct {
		name     string
		h        hire.Hall
		from, to int
		want     int
		e        api.Errno
	}{
		{"H, days 0 to 1", hallH(), 0, 1, 2, api.OK},
		{"H, day 2", hallH(), 2, 2, 5, api.OK},
		{"H, days 6 to 9", hallH(), 6, 9, 0, api.OK},
		{"H, all days", hallH(), 0, 59, 9, api.OK},
		{"H, day 5", hallH(), 5, 5, 2, api.OK},
		{"H, the last day", hallH(), 59, 59, 0, api.OK},
		{"G, day 2", hallG(), 2, 2, 5, api.OK},
		{"G, days 3 to 4", hallG(), 3, 4, 4, api.OK},
		{"G, days 0 to 1", hallG(), 0, 1, 0, api.OK},
		{"no request", hall(1), 0, 59, 0, api.OK},
		{"a machine is idle", equalRequests(4, 3), 0, 59, 0, api.OK},
		{"no machine is idle", equalRequests(4, 4), 0, 59, 2, api.OK},
		{"more than a request can pay", hall(1, 0, 9, 1000000, 10, 19, 1000000), 9, 10, 2000000, api.OK},
		{"with as many requests as possible", equalRequests(1, 18), 7, 7, 2, api.OK},
		{"the first day after those of all", equalRequests(1, 18), 8, 59, 0, api.OK},
		{"the last day before those of all", equalRequests(1, 18), 0, 2, 0, api.OK},
		{"others take the place of the one that goes", hall(1, 0, 9, 8, 0, 4, 3, 5, 9, 3), 0, 0, 5, api.OK},
		{"the last day before the first one", hallH(), 2, 1, 0, api.ErrRange},
		{"a day below 0", hallH(), -1, 1, 0, api.ErrRange},
		{"a day above the bound", hallH(), 0, 60, 0, api.ErrRange},
		{"both days above the bound", hallH(), 60, 60, 0, api.ErrRange},
		{"both days below 0", hallH(), -1, -1, 0, api.ErrRange},
		{"extreme days", hallH(), math.MinInt, math.MaxInt, 0, api.ErrRange},
		{"the greatest last day", hallH(), 0, math.MaxInt, 0, api.ErrRange},
	} {
		if n, e := hire.Least(c.h, c.from, c.to); n != c.want || e != c.e {
			t.Errorf("%s: %d, %d, want %d, %d", c.name, n, e, c.want, c.e)
		}
	}
}
