package hire_test

import (
	"math/rand"
	"slices"

	"pianola/api"
	"pianola/hire"
)

// The reference follows the chapter's definitions word by word: it tries all choices of small halls. For large halls it goes from request to request as they begin, and remembers from when on the machines are free.

// list returns a list of numbers.
func list(l ...int) []int { return l }

// hall returns a hall with requests: from, to, pays, and so on.
func hall(machines int, l ...int) hire.Hall {
	h := hire.Hall{Machines: machines}
	for ; len(l) > 0; l = l[3:] {
		h.Requests = append(h.Requests, request(l[0], l[1], l[2]))
	}
	return h
}

// request returns a request.
func request(from, to, pays int) hire.Request {
	return hire.Request{From: from, To: to, Pays: pays}
}

// with returns a hall with some more requests.
func with(h hire.Hall, more ...hire.Request) hire.Hall {
	return hire.Hall{Machines: h.Machines, Requests: slices.Concat(h.Requests, more)}
}

// priced returns prices that are 0 but for some days: day, price, and so on.
func priced(l ...int) []int {
	prices := make([]int, hire.MaxDays)
	for ; len(l) > 0; l = l[2:] {
		prices[l[0]] = l[1]
	}
	return prices
}

// has reports whether a request has a day.
func has(r hire.Request, day int) bool { return r.From <= day && day <= r.To }

// onDay returns how many requests of a choice have a day.
func onDay(h hire.Hall, choice []int, day int) int {
	n := 0
	for _, i := range choice {
		if has(h.Requests[i], day) {
			n++
		}
	}
	return n
}

// needOf returns the need of a choice.
func needOf(h hire.Hall, choice []int) int {
	need := 0
	for day := range hire.MaxDays {
		need = max(need, onDay(h, choice, day))
	}
	return need
}

// paysOf returns what a choice brings.
func paysOf(h hire.Hall, choice []int) int {
	pays := 0
	for _, i := range choice {
		pays += h.Requests[i].Pays
	}
	return pays
}

// choicesOf returns all choices of the first requests, so many of them.
func choicesOf(requests int) [][]int {
	all := [][]int{nil}
	for i := range requests {
		for _, choice := range slices.Clone(all) {
			all = append(all, append(slices.Clone(choice), i))
		}
	}
	return all
}

// bestOf returns all best choices of a small hall, and what they bring.
func bestOf(h hire.Hall) (best [][]int, pays int) {
	for _, choice := range choicesOf(len(h.Requests)) {
		if needOf(h, choice) > h.Machines {
			continue
		}
		if p := paysOf(h, choice); p > pays {
			best, pays = nil, p
		}
		if paysOf(h, choice) == pays {
			best = append(best, choice)
		}
	}
	return best, pays
}

// kindsOf returns what each request is, by all best choices.
func kindsOf(h hire.Hall, best [][]int) []int {
	var kinds []int
	for i := range h.Requests {
		n := 0
		for _, choice := range best {
			if slices.Contains(choice, i) {
				n++
			}
		}
		switch n {
		case 0:
			kinds = append(kinds, hire.Never)
		case len(best):
			kinds = append(kinds, hire.Always)
		default:
			kinds = append(kinds, hire.Sometimes)
		}
	}
	return kinds
}

// isInBest reports whether the last request of a small hall is in some best choice.
func isInBest(h hire.Hall) bool {
	best, _ := bestOf(h)
	return slices.ContainsFunc(best, func(choice []int) bool { return slices.Contains(choice, len(h.Requests)-1) })
}

// boundOf returns the bound of prices.
func boundOf(h hire.Hall, prices []int) int {
	bound := 0
	for _, price := range prices {
		bound += h.Machines * price
	}
	for _, r := range h.Requests {
		if more := surplus(r, prices); more > 0 {
			bound += more
		}
	}
	return bound
}

// surplus returns what a request pays more than the prices of its days.
func surplus(r hire.Request, prices []int) int {
	more := r.Pays
	for day, price := range prices {
		if has(r, day) {
			more -= price
		}
	}
	return more
}

// isAssignment reports whether machines are an assignment of a choice.
func isAssignment(h hire.Hall, choice, machines []int) bool {
	if len(machines) != len(choice) {
		return false
	}
	for day := range hire.MaxDays {
		taken := make(map[int]bool)
		for i, machine := range machines {
			if !has(h.Requests[choice[i]], day) {
				continue
			}
			if machine < 0 || machine >= h.Machines || taken[machine] {
				return false
			}
			taken[machine] = true
		}
	}
	return true
}

// free is from which day on each machine is free, in ascending order.
type free [hire.MaxMachines]int

// mostOf returns the most that a hall of any size brings if the requests for which must says so are accepted, or -1 if not all of them can be.
func mostOf(h hire.Hall, must func(i int) bool) int {
	var order []int
	for i := range h.Requests {
		order = append(order, i)
	}
	slices.SortStableFunc(order, func(i, j int) int { return h.Requests[i].From - h.Requests[j].From })
	var start free
	for i := h.Machines; i < hire.MaxMachines; i++ {
		start[i] = hire.MaxDays // no such machine
	}
	states := map[free]int{start: 0}
	for _, i := range order {
		states = after(states, h.Requests[i], must(i))
	}
	most := -1
	for _, pays := range states {
		most = max(most, pays)
	}
	return most
}

// after returns the states after a request has been accepted or, if it need not be, declined.
func after(states map[free]int, r hire.Request, must bool) map[free]int {
	next := make(map[free]int)
	add := func(f free, pays int) {
		slices.Sort(f[:])
		if old, ok := next[f]; !ok || pays > old {
			next[f] = pays
		}
	}
	for f, pays := range states {
		if !must {
			add(f, pays)
		}
		if f[0] <= r.From {
			f[0] = r.To + 1
			add(f, pays+r.Pays)
		}
	}
	return next
}

// none says that no request must be accepted.
func none(int) bool { return false }

// kindBy returns what a request of a hall of any size is: it asks what is brought with it, and without it.
func kindBy(h hire.Hall, i int) int {
	accepted := mostOf(h, func(j int) bool { return j == i })
	declined := mostOf(hire.Hall{Machines: h.Machines, Requests: slices.Delete(slices.Clone(h.Requests), i, i+1)}, none)
	switch {
	case accepted > declined:
		return hire.Always
	case accepted < declined:
		return hire.Never
	}
	return hire.Sometimes
}

// leastBy returns what a further request has to pay in a hall of any size.
func leastBy(h hire.Hall, from, to int) int {
	more := with(h, request(from, to, 0))
	return mostOf(h, none) - mostOf(more, func(i int) bool { return i == len(h.Requests) })
}

// newRandom returns the numbers that all runs of the tests share.
func newRandom() *rand.Rand { return rand.New(rand.NewSource(120)) }

// between returns a number from a least to a greatest one.
func between(r *rand.Rand, least, greatest int) int { return least + r.Intn(greatest-least+1) }

// anyDays returns the first and the last day of a request between two days.
func anyDays(r *rand.Rand, first, last int) (from, to int) {
	a, b := between(r, first, last), between(r, first, last)
	if r.Intn(2) == 0 {
		b = between(r, a, min(a+2, last))
	}
	return min(a, b), max(a, b)
}

// anyHall returns a hall with at most so many requests. They are close together or all over the days, at their beginning or at their end, and pay nearly the same or not at all.
func anyHall(r *rand.Rand, requests int) hire.Hall {
	days := list(3, 6, 12, hire.MaxDays)[r.Intn(4)]
	first := between(r, 0, 2) * (hire.MaxDays - days) / 2
	most := list(1, 3, 20, hire.MaxPay)[r.Intn(4)]
	h := hire.Hall{Machines: between(r, 1, hire.MaxMachines)}
	for range between(r, 0, requests) {
		from, to := anyDays(r, first, first+days-1)
		h.Requests = append(h.Requests, request(from, to, between(r, 1, most)))
		if r.Intn(8) == 0 {
			h.Requests[len(h.Requests)-1] = h.Requests[0]
		}
	}
	return h
}

// largeHall returns a hall with as many requests as possible, or nearly as many.
func largeHall(r *rand.Rand) hire.Hall {
	h := anyHall(r, hire.MaxRequests)
	for len(h.Requests) < hire.MaxRequests-r.Intn(3) {
		h.Requests = append(h.Requests, anyHall(r, hire.MaxRequests).Requests...)
	}
	return hire.Hall{Machines: h.Machines, Requests: h.Requests[:min(len(h.Requests), hire.MaxRequests)]}
}

// anyPrices returns prices; some of them prove more than others.
func anyPrices(r *rand.Rand, h hire.Hall) []int {
	prices := make([]int, hire.MaxDays)
	for range r.Intn(8) {
		if len(h.Requests) == 0 || r.Intn(8) == 0 {
			prices[r.Intn(hire.MaxDays)] = r.Intn(hire.MaxPrice + 1)
			continue
		}
		one := h.Requests[r.Intn(len(h.Requests))]
		prices[between(r, one.From, one.To)] = r.Intn(one.Pays + 1)
	}
	return prices
}

// anyChoice returns a choice of a hall.
func anyChoice(r *rand.Rand, h hire.Hall) []int {
	var choice []int
	dense := between(r, 1, 4)
	for i := range h.Requests {
		if r.Intn(4) < dense {
			choice = append(choice, i)
		}
	}
	return choice
}

// backwards returns a hall in which time runs backwards.
func backwards(h hire.Hall) hire.Hall {
	back := hire.Hall{Machines: h.Machines}
	for _, r := range h.Requests {
		back.Requests = append(back.Requests, request(hire.MaxDays-1-r.To, hire.MaxDays-1-r.From, r.Pays))
	}
	return back
}

// permuted returns the elements of a list in another order.
func permuted[T any](l []T, order []int) []T {
	var out []T
	for _, i := range order {
		out = append(out, l[i])
	}
	return out
}

// reordered returns a hall whose requests are told in another order.
func reordered(h hire.Hall, order []int) hire.Hall {
	return hire.Hall{Machines: h.Machines, Requests: permuted(h.Requests, order)}
}

// multiplied returns a hall in which all Pays are multiplied by a number.
func multiplied(h hire.Hall, by int) hire.Hall {
	out := hire.Hall{Machines: h.Machines}
	for _, r := range h.Requests {
		out.Requests = append(out.Requests, request(r.From, r.To, r.Pays*by))
	}
	return out
}

// errors returns one error, so many times.
func errors(e api.Errno, times int) []api.Errno { return slices.Repeat([]api.Errno{e}, times) }
