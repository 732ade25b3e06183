package leak_test

import (
	"math/big"
	"math/rand"
	"slices"

	"pianola/api"
	"pianola/leak"
)

// The reference follows the chapter's definitions word by word: it tries all sets of tubes for trees and cuts, and solves the equations of the pressures with fractions of any size.

// list returns a list of numbers.
func list(l ...int) []int { return l }

// tube returns a tube.
func tube(from, to, much int) leak.Tube {
	return leak.Tube{From: from, To: to, Leak: much}
}

// net returns a net with tubes: from, to, Leak, and so on.
func net(places int, l ...int) leak.Net {
	n := leak.Net{Places: places}
	for ; len(l) > 0; l = l[3:] {
		n.Tubes = append(n.Tubes, tube(l[0], l[1], l[2]))
	}
	return n
}

// over returns a fraction.
func over(num, den int) api.Ratio { return api.Ratio{Num: num, Den: den} }

// span returns a span.
func span(lo, hi int) api.Span { return api.Span{Lo: lo, Hi: hi} }

// spans returns spans: Lo, Hi, and so on.
func spans(l ...int) []api.Span {
	var all []api.Span
	for ; len(l) > 0; l = l[2:] {
		all = append(all, span(l[0], l[1]))
	}
	return all
}

// with returns a net with some more tubes.
func with(n leak.Net, more ...leak.Tube) leak.Net {
	return leak.Net{Places: n.Places, Tubes: slices.Concat(n.Tubes, more)}
}

// without returns a net without a tube.
func without(n leak.Net, tube int) leak.Net {
	return leak.Net{Places: n.Places, Tubes: slices.Concat(n.Tubes[:tube], n.Tubes[tube+1:])}
}

// merged returns a net in which two places are one; the last place gets the number that is free then. A tube between them is in no forest.
func merged(n leak.Net, one, two int) leak.Net {
	one, two = min(one, two), max(one, two)
	number := func(place int) int {
		switch place {
		case two:
			return one
		case n.Places - 1:
			return two
		}
		return place
	}
	m := leak.Net{Places: n.Places - 1}
	for _, t := range n.Tubes {
		if from, to := number(t.From), number(t.To); from != to {
			m.Tubes = append(m.Tubes, tube(from, to, t.Leak))
		}
	}
	return m
}

// parts returns a number for each place of a net with some of its tubes, the same for those that are connected, how many parts there are, and whether the tubes are a forest.
func parts(n leak.Net, chosen func(tube int) bool) (part []int, count int, isForest bool) {
	part, count, isForest = make([]int, n.Places), n.Places, true
	for place := range part {
		part[place] = place
	}
	for i, t := range n.Tubes {
		if !chosen(i) {
			continue
		}
		old, young := part[t.From], part[t.To]
		if old == young {
			isForest = false
			continue
		}
		count--
		for place := range part {
			if part[place] == young {
				part[place] = old
			}
		}
	}
	return part, count, isForest
}

// everyTube chooses all tubes.
func everyTube(int) bool { return true }

// isConnected reports whether a net is connected.
func isConnected(n leak.Net) bool {
	_, count, _ := parts(n, everyTube)
	return count == 1
}

// forEachForest calls a function with the forests of a net: their weights, a number for each place, and how many parts there are.
func forEachForest(n leak.Net, call func(weight int, part []int, count int)) {
	for set := range 1 << len(n.Tubes) {
		chosen := func(tube int) bool { return set>>tube&1 == 1 }
		part, count, isForest := parts(n, chosen)
		if !isForest {
			continue
		}
		weight := 1
		for i, t := range n.Tubes {
			if chosen(i) {
				weight *= t.Leak
			}
		}
		call(weight, part, count)
	}
}

// treesOf returns the trees of a net.
func treesOf(n leak.Net) int {
	sum := 0
	forEachForest(n, func(weight int, _ []int, count int) {
		if count == 1 {
			sum += weight
		}
	})
	return sum
}

// cutsOf returns the cuts of all pairs of places.
func cutsOf(n leak.Net) [][]int {
	cuts := make([][]int, n.Places)
	for a := range cuts {
		cuts[a] = make([]int, n.Places)
	}
	forEachForest(n, func(weight int, part []int, count int) {
		for a := range part {
			for b := range part {
				if count == 2 && part[a] != part[b] {
					cuts[a][b] += weight
				}
			}
		}
	})
	return cuts
}

// ratio returns a fraction of any size.
func ratio(num, den int) *big.Rat { return big.NewRat(int64(num), int64(den)) }

// lowest returns a fraction in lowest terms.
func lowest(r *big.Rat) api.Ratio {
	return over(int(r.Num().Int64()), int(r.Denom().Int64()))
}

// equations returns the equations of the pressures for two places: a row for each place, and what it is equal to at its end. A place that is connected with neither has the pressure 0.
func equations(n leak.Net, a, b int) [][]*big.Rat {
	part, _, _ := parts(n, everyTube)
	rows := make([][]*big.Rat, n.Places)
	for place := range rows {
		rows[place] = make([]*big.Rat, n.Places+1)
		for i := range rows[place] {
			rows[place][i] = new(big.Rat)
		}
		if place == a || place == b || part[place] != part[a] && part[place] != part[b] {
			rows[place][place].SetInt64(1)
		}
	}
	rows[a][n.Places].SetInt64(1)
	for _, t := range n.Tubes {
		for _, ends := range [][]int{{t.From, t.To}, {t.To, t.From}} {
			row := rows[ends[0]]
			if ends[0] != a && ends[0] != b && (part[ends[0]] == part[a] || part[ends[0]] == part[b]) {
				row[ends[0]].Add(row[ends[0]], ratio(t.Leak, 1))
				row[ends[1]].Sub(row[ends[1]], ratio(t.Leak, 1))
			}
		}
	}
	return rows
}

// pressuresOf returns the pressures for two places.
func pressuresOf(n leak.Net, a, b int) []*big.Rat {
	rows := equations(n, a, b)
	for i := range rows {
		pivot := i
		for rows[pivot][i].Sign() == 0 {
			pivot++
		}
		rows[i], rows[pivot] = rows[pivot], rows[i]
		by := new(big.Rat).Inv(rows[i][i])
		for _, x := range rows[i] {
			x.Mul(x, by)
		}
		for j, row := range rows {
			if j == i {
				continue
			}
			times := new(big.Rat).Set(row[i])
			for k, x := range row {
				x.Sub(x, new(big.Rat).Mul(times, rows[i][k]))
			}
		}
	}
	pressures := make([]*big.Rat, n.Places)
	for place, row := range rows {
		pressures[place] = row[n.Places]
	}
	return pressures
}

// wholeOf returns what flows out of a place, to another one.
func wholeOf(n leak.Net, a, b int) *big.Rat {
	pressures := pressuresOf(n, a, b)
	sum := new(big.Rat)
	for _, t := range n.Tubes {
		for _, ends := range [][]int{{t.From, t.To}, {t.To, t.From}} {
			if ends[0] == a {
				difference := new(big.Rat).Sub(pressures[a], pressures[ends[1]])
				sum.Add(sum, difference.Mul(difference, ratio(t.Leak, 1)))
			}
		}
	}
	return sum
}

// repairOf returns the first tube without which the whole is smallest, and this whole.
func repairOf(n leak.Net, a, b int) (tube int, least *big.Rat) {
	for i := range n.Tubes {
		if whole := wholeOf(without(n, i), a, b); least == nil || whole.Cmp(least) < 0 {
			tube, least = i, whole
		}
	}
	return tube, least
}

// newRandom returns a source of numbers that are the same each time.
func newRandom() *rand.Rand { return rand.New(rand.NewSource(130)) }

// between returns a number from a least to a greatest one.
func between(r *rand.Rand, least, greatest int) int {
	return least + r.Intn(greatest-least+1)
}

// anyTube returns a tube of a net.
func anyTube(r *rand.Rand, places, most int) leak.Tube {
	l := r.Perm(places)
	return tube(l[0], l[1], between(r, 1, most))
}

// anyNet returns a connected net with Leaks up to a greatest one, and room for some more tubes. Often there are few tubes, so that some hang at the side.
func anyNet(r *rand.Rand, most, room int) leak.Net {
	n := leak.Net{Places: between(r, 2, leak.MaxPlaces)}
	order := r.Perm(n.Places)
	for i := 1; i < n.Places; i++ {
		one, two := order[i], order[r.Intn(i)]
		if r.Intn(2) == 0 {
			one, two = two, one
		}
		n.Tubes = append(n.Tubes, tube(one, two, between(r, 1, most)))
	}
	more := leak.MaxTubes - room - len(n.Tubes)
	if r.Intn(2) == 0 {
		more = min(more, 3)
	}
	for range r.Intn(more + 1) {
		n.Tubes = append(n.Tubes, anyTube(r, n.Places, most))
	}
	r.Shuffle(len(n.Tubes), func(i, j int) { n.Tubes[i], n.Tubes[j] = n.Tubes[j], n.Tubes[i] })
	return n
}

// anyPair returns two places of a net.
func anyPair(r *rand.Rand, n leak.Net) (a, b int) {
	l := r.Perm(n.Places)
	return l[0], l[1]
}

// walk returns how often a walk by chance from a place to another one goes through each tube, from From to To less the other way.
func walk(r *rand.Rand, n leak.Net, a, b int) []int {
	through := make([]int, len(n.Tubes))
	for a != b {
		i := r.Intn(len(n.Tubes))
		switch t := n.Tubes[i]; a {
		case t.From:
			a = t.To
			through[i]++
		case t.To:
			a = t.From
			through[i]--
		}
	}
	return through
}
