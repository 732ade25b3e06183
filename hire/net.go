package hire

// edge leads machines from the morning of its first day to the morning after its last one. It is a request, or a day on which machines are idle.
type edge struct {
	Request
	number int // the number of the request, if it is one
	most   int // how many machines it can lead
	leads  int // how many machines it leads
}

// next returns the morning after the last day of an edge.
func (e edge) next() int {
	return e.To + 1
}

// net is all edges of a hall: those of the requests, and then one for each day. Along them machines go from the morning of the day 0 to the one after the last day.
type net []edge

// netOf returns the net of a hall, in which no machine goes yet.
func netOf(h Hall) net {
	order := h.inOrder(filled(len(h.Requests), func(i int) int { return i }))
	requests := filled(len(order), func(i int) edge {
		return edge{Request: h.Requests[order[i]], number: order[i], most: 1}
	})
	days := filled(MaxDays, func(day int) edge {
		// One more machine than there are could be idle, too: that is why no price is below 0.
		return edge{Request: Request{From: day, To: day}, most: h.Machines + 1}
	})
	return append(requests, days...)
}

// planOf returns the net of a hall in which all machines go so that they bring the most together. One machine after another goes the way that brings the most, in which those before it go other ways where that helps.
func planOf(h Hall) net {
	n := netOf(h)
	for range h.Machines {
		n.lead()
	}
	return n
}

// unknown stands for what a way brings that has not been found: far less than any way does.
const unknown = -1 << 40

// way is what changes in a net if a machine goes from one morning to another one: it goes along edges that can lead one more, and back along edges that lead one, which is then taken from them.
type way struct {
	brings int // by how much more the machines bring
	from   int // the morning at which the last edge begins or, if the way goes back along it, ends
	last   int // the index of the last edge
}

// ways returns the ways from a morning to each one that bring the most. No way that leads back to its beginning brings anything, since machines go so that they bring the most; so the search ends.
func (n net) ways(start int) []way {
	ways := filled(MaxDays+1, func(int) way { return way{brings: unknown} })
	ways[start].brings = 0
	improved := true
	extend := func(from, to, pays, last int) {
		if brings := ways[from].brings + pays; brings > ways[to].brings {
			ways[to] = way{brings: brings, from: from, last: last}
			improved = true
		}
	}
	for improved {
		improved = false
		for i, e := range n {
			if e.leads < e.most {
				extend(e.From, e.next(), e.Pays, i)
			}
			if e.leads > 0 {
				extend(e.next(), e.From, -e.Pays, i)
			}
		}
	}
	return ways
}

// lead leads one more machine through all days.
func (n net) lead() {
	ways := n.ways(0)
	for at := MaxDays; at != 0; at = ways[at].from {
		if w := ways[at]; w.from < at {
			n[w.last].leads++
		} else {
			n[w.last].leads--
		}
	}
}

// brings returns the most that a way from one morning to another one brings.
func (n net) brings(from, to int) int {
	return n.ways(from)[to].brings
}
