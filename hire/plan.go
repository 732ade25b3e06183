package hire

import "slices"

// requests returns the edges of a net that are requests.
func (n net) requests() []edge {
	return n[:len(n)-MaxDays]
}

// choice returns the requests that get a machine.
func (n net) choice() []int {
	var choice []int
	for _, e := range n.requests() {
		if e.leads == 1 {
			choice = append(choice, e.number)
		}
	}
	slices.Sort(choice)
	return choice
}

// kinds returns what each request is.
func (n net) kinds() []int {
	kinds := make([]int, len(n.requests()))
	for _, e := range n.requests() {
		kinds[e.number] = n.kind(e)
	}
	return kinds
}

// kind returns what a request is. Any two best choices differ by ways that lead back to their beginning and bring nothing; if one leads along the edge of the request or back along it, there are best choices with the request and without it.
func (n net) kind(e edge) int {
	switch {
	case n.brings(e.From, e.next()) < e.Pays: // the edge is taken, and nothing else brings as much
		return Always
	case n.least(e.From, e.To) > e.Pays: // the edge is not taken, and what it takes brings more
		return Never
	}
	return Sometimes
}

// least returns how much less is brought if one machine is kept free for some days.
func (n net) least(from, to int) int {
	return -n.brings(to+1, from)
}

// prices returns by how much each day adds to what a way from the first morning brings. So the days of a request have at least the prices that it pays together if a way can go along it, and at most these if a way can go back; and a day on which a machine is idle has the price 0.
func (n net) prices() []int {
	ways := n.ways(0)
	return filled(MaxDays, func(day int) int { return ways[day+1].brings - ways[day].brings })
}

// bound returns the bound of prices.
func (h Hall) bound(prices []int) int {
	bound := h.Machines * sum(prices)
	for _, r := range h.Requests {
		bound += max(0, r.Pays-sum(prices[r.From:r.To+1]))
	}
	return bound
}

// sum returns what numbers are together.
func sum(numbers []int) int {
	sum := 0
	for _, n := range numbers {
		sum += n
	}
	return sum
}
