package hire

// days returns how many requests of a choice have each day, for the days that one of them has.
func (h Hall) days(choice []int) map[int]int {
	days := make(map[int]int)
	for _, number := range choice {
		r := h.Requests[number]
		for day := r.From; day <= r.To; day++ {
			days[day]++
		}
	}
	return days
}

// need returns the need of a choice.
func (h Hall) need(choice []int) int {
	need := 0
	for _, requests := range h.days(choice) {
		need = max(need, requests)
	}
	return need
}

// pays returns what a choice brings.
func (h Hall) pays(choice []int) int {
	pays := 0
	for _, number := range choice {
		pays += h.Requests[number].Pays
	}
	return pays
}

// assign returns an assignment of a choice, and whether there is one. The requests come as they begin, and each one gets the first machine that is free; if none is, all machines are hired out on its first day, so that the choice is not possible.
func (h Hall) assign(choice []int) (machines []int, ok bool) {
	var freeFrom [MaxMachines]int // the first day from which on each machine is free
	assigned := make(map[int]int)
requests:
	for _, number := range h.inOrder(choice) {
		r := h.Requests[number]
		for machine := range h.Machines {
			if freeFrom[machine] <= r.From {
				freeFrom[machine] = r.To + 1
				assigned[number] = machine
				continue requests
			}
		}
		return nil, false
	}
	return filled(len(choice), func(i int) int { return assigned[choice[i]] }), true
}
