package torn

import "pianola/api"

// count returns how many fillings fit whose rows are allowed. The rows come one after another, and of those before it just matters what they leave to the keys.
func (x Sheet) count(isAllowed func(row int, holes set) bool) int {
	ways := map[needs]int{needsOf(x.Keys): 1}
	for row, size := range x.Rows {
		next := make(map[needs]int)
		for left, n := range ways {
			for holes := range sets(len(x.Keys), size) {
				if after, ok := left.after(holes); ok && isAllowed(row, holes) {
					next[after] += n
				}
			}
		}
		ways = next
	}
	return ways[needs{}]
}

// all returns how many fillings fit.
func (x Sheet) all() int {
	return x.count(func(int, set) bool { return true })
}

// share returns which part of all fillings that fit have a hole at a place. There has to be one that fits.
func (x Sheet) share(row, key int) api.Ratio {
	return lowest(x.count(func(r int, holes set) bool { return r != row || holes.has(key) }), x.all())
}

// lowest returns the fraction of two numbers, of which the second one is above 0, in lowest terms.
func lowest(num, den int) api.Ratio {
	common, rest := den, num
	for rest != 0 {
		common, rest = rest, common%rest
	}
	return api.Ratio{Num: num / common, Den: den / common}
}
