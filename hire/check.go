package hire

import "pianola/api"

// isWithin reports whether a number is from a least to a greatest one.
func isWithin(n, least, greatest int) bool {
	return least <= n && n <= greatest
}

// areDays reports whether these can be the first and the last day of a request.
func areDays(from, to int) bool {
	return 0 <= from && from <= to && to < MaxDays
}

// check returns the error of a hall.
func (h Hall) check() api.Errno {
	switch {
	case !isWithin(h.Machines, 1, MaxMachines):
		return api.ErrRange
	case len(h.Requests) > MaxRequests:
		return api.ErrMany
	}
	for _, r := range h.Requests {
		if !areDays(r.From, r.To) || !isWithin(r.Pays, 1, MaxPay) {
			return api.ErrRange
		}
	}
	return api.OK
}

// checkChoice returns the error of a hall and a choice.
func (h Hall) checkChoice(choice []int) api.Errno {
	if e := h.check(); e != api.OK {
		return e
	}
	for i, number := range choice {
		switch {
		case !isWithin(number, 0, len(h.Requests)-1):
			return api.ErrNone
		case i > 0 && number <= choice[i-1]:
			return api.ErrOrder
		}
	}
	return api.OK
}

// checkPrices returns the error of a hall and prices.
func (h Hall) checkPrices(prices []int) api.Errno {
	if e := h.check(); e != api.OK {
		return e
	}
	if len(prices) != MaxDays {
		return api.ErrShape
	}
	for _, price := range prices {
		if !isWithin(price, 0, MaxPrice) {
			return api.ErrRange
		}
	}
	return api.OK
}
