package hire_test

import (
	"math"
	"math/rand"
	"reflect"
	"slices"
	"testing"

	"pianola/api"
	"pianola/hire"
)

// must fails a test if there is an error.
func must(t *testing.T, e api.Errno) {
	t.Helper()
	if e != api.OK {
		t.Fatalf("error %d", e)
	}
}

// best returns a best choice of a hall, and what it brings.
func best(t *testing.T, h hire.Hall) (choice []int, pays int) {
	t.Helper()
	choice, pays, e := hire.Best(h)
	must(t, e)
	return choice, pays
}

// brings returns what a best choice of a hall brings.
func brings(t *testing.T, h hire.Hall) int {
	t.Helper()
	_, pays := best(t, h)
	return pays
}

// prices returns prices that prove what a best choice of a hall brings.
func prices(t *testing.T, h hire.Hall) []int {
	t.Helper()
	l, e := hire.Prices(h)
	must(t, e)
	return l
}

// kinds returns what the requests of a hall are.
func kinds(t *testing.T, h hire.Hall) []int {
	t.Helper()
	l, e := hire.Kinds(h)
	must(t, e)
	return l
}

// least returns what a further request has to pay.
func least(t *testing.T, h hire.Hall, from, to int) int {
	t.Helper()
	n, e := hire.Least(h, from, to)
	must(t, e)
	return n
}

// small is the number of requests up to which the reference tries all choices.
const small = 6

// forSmall calls a function with small halls of all sorts.
func forSmall(times int, call func(r *rand.Rand, h hire.Hall)) {
	r := newRandom()
	for range times {
		h := anyHall(r, small)
		if r.Intn(2) == 0 {
			h.Machines = between(r, 1, 2)
		}
		call(r, h)
	}
}

// forLarge calls a function with halls of all sizes.
func forLarge(times int, call func(r *rand.Rand, h hire.Hall)) {
	r := newRandom()
	for i := range times {
		h := anyHall(r, hire.MaxRequests)
		if i%2 == 0 {
			h = largeHall(r)
		}
		call(r, h)
	}
}

// P12.2, P12.3 and P12.5 (G3): what the functions say of small halls is what all choices show.
func TestAllChoices(t *testing.T) {
	var count [3]int
	forSmall(600, func(r *rand.Rand, h hire.Hall) {
		all, most := bestOf(h)
		choice, pays := best(t, h)
		if pays != most || !slices.ContainsFunc(all, func(l []int) bool { return slices.Equal(l, choice) }) {
			t.Fatalf("Best of %v: %v, %d, want one of %v, %d", h, choice, pays, all, most)
		}
		if l := kinds(t, h); !slices.Equal(l, kindsOf(h, all)) {
			t.Fatalf("Kinds of %v: %v, want %v", h, l, kindsOf(h, all))
		}
		for _, kind := range kinds(t, h) {
			count[kind]++
		}
		if most != mostOf(h, none) {
			t.Fatalf("the references differ for %v", h)
		}
	})
	if slices.Min(count[:]) < 100 {
		t.Fatalf("requests of the kinds: %v", count)
	}
}

// P12.2 and P12.10 (G2): a choice has an assignment just if it is possible; then no machine is with two cinemas on one day.
func TestAssigned(t *testing.T) {
	possible := 0
	forLarge(2000, func(r *rand.Rand, h hire.Hall) {
		choice := anyChoice(r, h)
		need, pays, e := hire.Need(h, choice)
		if e != api.OK || need != needOf(h, choice) || pays != paysOf(h, choice) {
			t.Fatalf("Need of %v, %v: %d, %d, %d", h, choice, need, pays, e)
		}
		machines, e := hire.Assign(h, choice)
		switch {
		case need > h.Machines:
			if len(machines) > 0 || e != api.ErrOver {
				t.Fatalf("Assign of %v, %v: %v, %d", h, choice, machines, e)
			}
		case e != api.OK || !isAssignment(h, choice, machines):
			t.Fatalf("Assign of %v, %v: %v, %d", h, choice, machines, e)
		default:
			possible++
		}
	})
	if possible < 500 || possible > 1500 {
		t.Fatalf("%d choices are possible", possible)
	}
}

// P12.3, P12.4 and P12.7 (G4): what a best choice brings is the bound of Prices, and what the reference says of halls of any size.
func TestBothSides(t *testing.T) {
	forLarge(300, func(r *rand.Rand, h hire.Hall) {
		choice, pays := best(t, h)
		if pays != mostOf(h, none) || paysOf(h, choice) != pays || needOf(h, choice) > h.Machines || !slices.IsSorted(choice) {
			t.Fatalf("Best of %v: %v, %d, want %d", h, choice, pays, mostOf(h, none))
		}
		l := prices(t, h)
		bound, e := hire.Bound(h, l)
		if e != api.OK || bound != pays || boundOf(h, l) != pays {
			t.Fatalf("Prices of %v: %v, their bound is %d, %d, want %d", h, l, bound, e, pays)
		}
		must(t, hire.Verify(h, l, pays))
		if e := hire.Verify(h, l, pays-1); pays > 0 && e != api.ErrProof {
			t.Fatalf("Verify of %v, %v and %d: %d", h, l, pays-1, e)
		}
	})
}

// P12.4 and P12.7 (G4): any prices have the bound of the definition, and no possible choice brings more.
func TestAnyPrices(t *testing.T) {
	forLarge(2000, func(r *rand.Rand, h hire.Hall) {
		l := anyPrices(r, h)
		bound, e := hire.Bound(h, l)
		if e != api.OK || bound != boundOf(h, l) || bound < brings(t, h) {
			t.Fatalf("Bound of %v, %v: %d, %d, want %d, at least %d", h, l, bound, e, boundOf(h, l), brings(t, h))
		}
		for _, more := range list(-1, 0, 1) {
			want := api.OK
			switch {
			case bound+more < 0:
				want = api.ErrRange
			case more < 0:
				want = api.ErrProof
			}
			if e := hire.Verify(h, l, bound+more); e != want {
				t.Fatalf("Verify of %v, %v, %d: %d, want %d", h, l, bound+more, e, want)
			}
		}
		if choice := anyChoice(r, h); needOf(h, choice) <= h.Machines && paysOf(h, choice) > bound {
			t.Fatalf("%v with the bound %d: %v brings %d", h, bound, choice, paysOf(h, choice))
		}
	})
}

// P12.8: the prices tell of each best choice which requests are in it, and on which days no machine is idle.
func TestPricesTell(t *testing.T) {
	forSmall(600, func(r *rand.Rand, h hire.Hall) {
		all, _ := bestOf(h)
		l := prices(t, h)
		for _, choice := range all {
			told(t, h, choice, l)
		}
	})
	forLarge(300, func(r *rand.Rand, h hire.Hall) {
		choice, _ := best(t, h)
		told(t, h, choice, prices(t, h))
	})
}

// told fails a test if prices do not tell what P12.8 says of a best choice.
func told(t *testing.T, h hire.Hall, choice, prices []int) {
	t.Helper()
	for i, r := range h.Requests {
		more, chosen := surplus(r, prices), slices.Contains(choice, i)
		if chosen && more < 0 || !chosen && more > 0 {
			t.Fatalf("%v, %v, prices %v: the request %d pays %d more", h, choice, prices, i, more)
		}
	}
	for day, price := range prices {
		if price > 0 && onDay(h, choice, day) < h.Machines {
			t.Fatalf("%v, %v, prices %v: a machine is idle on the day %d", h, choice, prices, day)
		}
	}
}

// P12.5: what the requests of halls of any size are is what the reference says of them.
func TestKindsAreExact(t *testing.T) {
	var count [3]int
	forLarge(60, func(r *rand.Rand, h hire.Hall) {
		for i, kind := range kinds(t, h) {
			if want := kindBy(h, i); kind != want {
				t.Fatalf("Kinds of %v, request %d: %d, want %d", h, i, kind, want)
			}
			count[kind]++
		}
	})
	if slices.Min(count[:]) < 50 {
		t.Fatalf("requests of the kinds: %v", count)
	}
}

// P12.6: a further request that pays the least is in some best choice of a small hall, and one that pays less is in none.
func TestLeastIsExact(t *testing.T) {
	above := 0
	forSmall(600, func(r *rand.Rand, h hire.Hall) {
		from, to := anyDays(r, 0, hire.MaxDays-1)
		if len(h.Requests) > 0 && r.Intn(4) > 0 {
			from, to = anyDays(r, h.Requests[0].From, h.Requests[0].To)
		}
		n := least(t, h, from, to)
		if n < 0 || !isInBest(with(h, request(from, to, n))) || n > 0 && isInBest(with(h, request(from, to, n-1))) {
			t.Fatalf("Least of %v, %d to %d: %d", h, from, to, n)
		}
		if n != leastBy(h, from, to) {
			t.Fatalf("the references differ for %v, %d to %d", h, from, to)
		}
		if n > 0 {
			above++
		}
	})
	if above < 200 {
		t.Fatalf("just %d are above 0", above)
	}
}

// P12.6: Least of halls of any size is what the reference says.
func TestLeastOfLargeHalls(t *testing.T) {
	forLarge(300, func(r *rand.Rand, h hire.Hall) {
		from, to := anyDays(r, 0, hire.MaxDays-1)
		if n := least(t, h, from, to); n != leastBy(h, from, to) {
			t.Fatalf("Least of %v, %d to %d: %d, want %d", h, from, to, n, leastBy(h, from, to))
		}
	})
}

// P12.9: each further machine brings at least nothing and at most as much as the one before it; as many machines as requests are enough for all.
func TestMachines(t *testing.T) {
	forLarge(500, func(r *rand.Rand, h hire.Hall) {
		if r.Intn(2) == 0 {
			h.Requests = h.Requests[:min(len(h.Requests), hire.MaxMachines)]
		}
		before, step := 0, math.MaxInt
		for machines := 1; machines <= hire.MaxMachines; machines++ {
			h.Machines = machines
			pays := brings(t, h)
			if pays < before || pays-before > step {
				t.Fatalf("%v: %d, and %d with a machine less", h, pays, before)
			}
			before, step = pays, pays-before
			if choice, _ := best(t, h); machines >= len(h.Requests) && len(choice) < len(h.Requests) {
				t.Fatalf("Best of %v: %v", h, choice)
			}
		}
	})
}

// P12.11: a further request that pays less than Least changes no best choice.
func TestFurtherBelow(t *testing.T) {
	below := 0
	forSmall(300, func(r *rand.Rand, h hire.Hall) {
		from, to := anyDays(r, 0, 5)
		n := least(t, h, from, to)
		for _, pays := range list(1, n/2, n-1) {
			if pays < 1 || pays >= n || pays > hire.MaxPay {
				continue
			}
			all, _ := bestOf(h)
			more := with(h, request(from, to, pays))
			if after, _ := bestOf(more); !reflect.DeepEqual(all, after) || brings(t, more) != brings(t, h) || !slices.Equal(kinds(t, more), append(kinds(t, h), hire.Never)) {
				t.Fatalf("%v with %d to %d for %d: %v and then %v", h, from, to, pays, all, after)
			}
			below++
		}
	})
	if below < 50 {
		t.Fatalf("just %d pay less", below)
	}
}

// P12.11: a further request that pays more than Least is in every best choice, and adds what it pays above it; one that pays just as much is in some.
func TestFurtherAbove(t *testing.T) {
	forLarge(500, func(r *rand.Rand, h hire.Hall) {
		h.Requests = h.Requests[:min(len(h.Requests), hire.MaxRequests-1)]
		from, to := anyDays(r, 0, hire.MaxDays-1)
		n := least(t, h, from, to)
		for _, more := range list(0, 1, 2, 1000) {
			if n+more < 1 || n+more > hire.MaxPay {
				continue
			}
			longer := with(h, request(from, to, n+more))
			kind := kinds(t, longer)[len(h.Requests)]
			if brings(t, longer) != brings(t, h)+more || more > 0 && kind != hire.Always || more == 0 && kind != hire.Sometimes {
				t.Fatalf("%v with %d to %d for %d more than %d: %d, and %d before; kind %d", h, from, to, more, n, brings(t, longer), brings(t, h), kind)
			}
		}
	})
}

// P12.12 (G5): if requests are told in another order, all answers are the same, for the same requests.
func TestInAnotherOrder(t *testing.T) {
	forLarge(500, func(r *rand.Rand, h hire.Hall) {
		order := r.Perm(len(h.Requests))
		other := reordered(h, order)
		choice, pays := best(t, h)
		again, same := best(t, other)
		// Equal requests cannot be told apart by what they are.
		if a, b := permuted(h.Requests, choice), permuted(other.Requests, again); pays != same || !reflect.DeepEqual(sorted(a), sorted(b)) {
			t.Fatalf("Best of %v: %v, %d, of %v: %v, %d", h, choice, pays, other, again, same)
		}
		var chosen []int
		for i, old := range order {
			if slices.Contains(choice, old) {
				chosen = append(chosen, i)
			}
		}
		if a, b := assigned(t, h, choice), assigned(t, other, chosen); !reflect.DeepEqual(a, b) {
			t.Fatalf("Assign of %v, %v: %v, of %v, %v: %v", h, choice, a, other, chosen, b)
		}
		if !slices.Equal(permuted(kinds(t, h), order), kinds(t, other)) {
			t.Fatalf("Kinds of %v: %v, of %v: %v", h, kinds(t, h), other, kinds(t, other))
		}
		from, to := anyDays(r, 0, hire.MaxDays-1)
		if !slices.Equal(prices(t, h), prices(t, other)) || least(t, h, from, to) != least(t, other, from, to) {
			t.Fatalf("%v and %v: other prices, or %d and %d", h, other, least(t, h, from, to), least(t, other, from, to))
		}
	})
}

// assigned returns the requests that each machine gets.
func assigned(t *testing.T, h hire.Hall, choice []int) [hire.MaxMachines][]hire.Request {
	t.Helper()
	machines, e := hire.Assign(h, choice)
	must(t, e)
	var lists [hire.MaxMachines][]hire.Request
	for i, machine := range machines {
		lists[machine] = append(lists[machine], h.Requests[choice[i]])
	}
	for _, l := range lists {
		sorted(l)
	}
	return lists
}

// sorted returns requests in an order of their own.
func sorted(requests []hire.Request) []hire.Request {
	slices.SortFunc(requests, func(a, b hire.Request) int {
		return slices.Compare(list(a.From, a.To, a.Pays), list(b.From, b.To, b.Pays))
	})
	return requests
}

// P12.12 (G5): if time runs backwards, all answers that are not free are the same, and choices and prices prove as much.
func TestBackwards(t *testing.T) {
	forLarge(500, func(r *rand.Rand, h hire.Hall) {
		back := backwards(h)
		from, to := anyDays(r, 0, hire.MaxDays-1)
		if brings(t, h) != brings(t, back) || !slices.Equal(kinds(t, h), kinds(t, back)) || least(t, h, from, to) != least(t, back, hire.MaxDays-1-to, hire.MaxDays-1-from) {
			t.Fatalf("%v and %v: %d and %d, %v and %v", h, back, brings(t, h), brings(t, back), kinds(t, h), kinds(t, back))
		}
		l := prices(t, h)
		slices.Reverse(l)
		choice, pays := best(t, h)
		must(t, hire.Verify(back, l, pays))
		need, same, e := hire.Need(back, choice)
		if e != api.OK || need > h.Machines || same != pays {
			t.Fatalf("Need of %v, %v: %d, %d, %d", back, choice, need, same, e)
		}
	})
}

// P12.13: with a request that pays more, or a further one, the best choices do not bring less.
func TestMore(t *testing.T) {
	forLarge(500, func(r *rand.Rand, h hire.Hall) {
		pays := brings(t, h)
		from, to := anyDays(r, 0, hire.MaxDays-1)
		if len(h.Requests) < hire.MaxRequests && brings(t, with(h, request(from, to, between(r, 1, hire.MaxPay)))) < pays {
			t.Fatalf("%v brings less with %d to %d", h, from, to)
		}
		if len(h.Requests) == 0 {
			return
		}
		more := with(h)
		one := &more.Requests[r.Intn(len(h.Requests))]
		one.Pays = between(r, one.Pays, hire.MaxPay)
		if brings(t, more) < pays {
			t.Fatalf("%v brings less than %v", more, h)
		}
	})
}

// P12.13: if all Pays are multiplied by a number, so is what the best choices bring, and the kinds remain.
func TestMultiplied(t *testing.T) {
	forLarge(500, func(r *rand.Rand, h hire.Hall) {
		by := between(r, 1, 9)
		times := multiplied(h, by)
		if hire.Check(times) != api.OK {
			return
		}
		from, to := anyDays(r, 0, hire.MaxDays-1)
		if brings(t, times) != by*brings(t, h) || !slices.Equal(kinds(t, times), kinds(t, h)) || least(t, times, from, to) != by*least(t, h, from, to) {
			t.Fatalf("%v, multiplied by %d: %d and %d", h, by, brings(t, h), brings(t, times))
		}
	})
}

// everything returns the results of all calls with a hall, those of each call as one list.
func everything(h hire.Hall, choice, prices []int, from, to int) [][]any {
	var all [][]any
	add := func(results ...any) { all = append(all, results) }
	add(hire.Check(h))
	add(hire.Need(h, choice))
	add(hire.Assign(h, choice))
	add(hire.Best(h))
	add(hire.Prices(h))
	add(hire.Bound(h, prices))
	add(hire.Verify(h, prices, to))
	add(hire.Kinds(h))
	add(hire.Least(h, from, to))
	return all
}

// R3: nil lists and empty ones are equivalent.
func TestNilIsEmpty(t *testing.T) {
	for machines := range 3 {
		h := hire.Hall{Machines: machines, Requests: []hire.Request{}}
		a, b := everything(hall(machines), nil, nil, 0, 0), everything(h, list(), list(), 0, 0)
		if !reflect.DeepEqual(a, b) {
			t.Errorf("%v for nil lists, %v for empty ones", a, b)
		}
	}
}

// spoil overwrites what results keep in their memory.
func spoil(calls [][]any) {
	for _, results := range calls {
		for _, result := range results {
			if l, ok := result.([]int); ok {
				for i := range cap(l) {
					l[:cap(l)][i] = -1
				}
			}
		}
	}
}

// R4 and P1: arguments are not changed, nor is what lies behind them in their memory; results share no memory, and the same arguments give the same results.
func TestNothingIsKept(t *testing.T) {
	forLarge(300, func(r *rand.Rand, h hire.Hall) {
		requests := append(slices.Clone(h.Requests), request(7, 8, 9))
		h.Requests = requests[:len(h.Requests)]
		choice, prices := append(anyChoice(r, h), 70), append(anyPrices(r, h), 80)
		copies := []any{slices.Clone(requests), slices.Clone(choice), slices.Clone(prices)}
		call := func() [][]any {
			return everything(h, choice[:len(choice)-1], prices[:len(prices)-1], 3, 9)
		}
		first, second := call(), call()
		spoil(first)
		if !reflect.DeepEqual(copies, []any{requests, choice, prices}) {
			t.Fatalf("arguments are changed: %v, %v, %v", requests, choice, prices)
		}
		if third := call(); !reflect.DeepEqual(second, third) {
			t.Fatalf("%v and then %v", second, third)
		}
	})
}

// anyNumber returns a number that is small or extreme.
func anyNumber(r *rand.Rand) int {
	numbers := list(math.MinInt, math.MinInt+1, -1<<32, -1, 18, 59, 60, 61, 1<<32, 1<<62, math.MaxInt-1, math.MaxInt)
	if r.Intn(16) == 0 {
		return numbers[r.Intn(len(numbers))]
	}
	return between(r, 0, 4)
}

// anyNumbers returns so many numbers, or nearly as many.
func anyNumbers(r *rand.Rand, size int) []int {
	var l []int
	for range size + r.Intn(8)/7 - r.Intn(8)/7 {
		l = append(l, anyNumber(r))
	}
	return l
}

// P1 (with R2): all calls end for any arguments, and return zero values with an error.
func TestAnyArguments(t *testing.T) {
	r := newRandom()
	right := 0
	for range 5000 {
		h := hire.Hall{Machines: anyNumber(r)}
		for range list(0, 1, 2, 3, 19)[r.Intn(5)] {
			h.Requests = append(h.Requests, request(anyNumber(r), anyNumber(r), anyNumber(r)))
		}
		for _, results := range everything(h, anyNumbers(r, 1), anyNumbers(r, hire.MaxDays), anyNumber(r), anyNumber(r)) {
			last := len(results) - 1
			if results[last].(api.Errno) == api.OK {
				right++
				continue
			}
			for _, result := range results[:last] {
				if v := reflect.ValueOf(result); !v.IsZero() && !(v.Kind() == reflect.Slice && v.Len() == 0) {
					t.Fatalf("a result is %v with the error %d", result, results[last])
				}
			}
		}
	}
	if right < 2000 {
		t.Fatalf("just %d calls are right", right)
	}
}
