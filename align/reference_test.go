package align_test

import (
	"math/big"
	"math/rand"
	"slices"

	"pianola/align"
	"pianola/api"
)

// The reference follows the chapter's definitions word by word: it tries all walks of short rolls, and the moves of long ones step by step; it counts with numbers of any size.

// abs returns the absolute value of a number.
func abs(n int) int {
	if n < 0 {
		return -n
	}
	return n
}

// distanceOf returns the distance of two events.
func distanceOf(x, y align.Event) int {
	if x.Key != y.Key {
		return 1000000
	}
	return abs(x.Loud-y.Loud) + abs(x.Gap-y.Gap)
}

// isPair reports whether a pair is one of two rolls.
func isPair(a, b align.Roll, p align.Pair) bool {
	return p.First >= 0 && p.First < len(a) && p.Second >= 0 && p.Second < len(b)
}

// far returns the distance of a pair.
func far(a, b align.Roll, p align.Pair) int {
	return distanceOf(a[p.First], b[p.Second])
}

// lastOf returns the pair of the last events.
func lastOf(a, b align.Roll) align.Pair {
	return align.Pair{First: len(a) - 1, Second: len(b) - 1}
}

// movesFrom returns the pairs to which moves lead, in the order in which walks are compared.
func movesFrom(a, b align.Roll, p align.Pair) []align.Pair {
	all := pairs(p.First+1, p.Second+1, p.First+1, p.Second, p.First, p.Second+1)
	return slices.DeleteFunc(all, func(q align.Pair) bool { return !isPair(a, b, q) })
}

// walksFrom returns all walks from a pair on, the first one first.
func walksFrom(a, b align.Roll, p align.Pair) [][]align.Pair {
	if p == lastOf(a, b) {
		return [][]align.Pair{{p}}
	}
	var all [][]align.Pair
	for _, q := range movesFrom(a, b, p) {
		for _, rest := range walksFrom(a, b, q) {
			all = append(all, append([]align.Pair{p}, rest...))
		}
	}
	return all
}

// heightOf returns the height of a walk.
func heightOf(a, b align.Roll, walk []align.Pair) int {
	height := 0
	for _, p := range walk {
		height = max(height, far(a, b, p))
	}
	return height
}

// bestWalk returns the gap and the first walk that has it, of short rolls.
func bestWalk(a, b align.Roll) (gap int, walk []align.Pair) {
	for _, w := range walksFrom(a, b, align.Pair{}) {
		if height := heightOf(a, b, w); walk == nil || height < gap {
			gap, walk = height, w
		}
	}
	return gap, walk
}

// reaching returns the pairs from which a way of at most a height leads to the last events.
func reaching(a, b align.Roll, height int) [][]bool {
	table := make([][]bool, len(a)+1)
	for i := range table {
		table[i] = make([]bool, len(b)+1)
	}
	for i := len(a) - 1; i >= 0; i-- {
		for k := len(b) - 1; k >= 0; k-- {
			p := align.Pair{First: i, Second: k}
			on := p == lastOf(a, b) || table[i+1][k] || table[i][k+1] || table[i+1][k+1]
			table[i][k] = on && far(a, b, p) <= height
		}
	}
	return table
}

// gapOf returns the gap of rolls of any length: the smallest distance of a pair that is enough.
func gapOf(a, b align.Roll) int {
	var distances []int
	for _, x := range a {
		for _, y := range b {
			distances = append(distances, distanceOf(x, y))
		}
	}
	slices.Sort(distances)
	for _, height := range distances {
		if reaching(a, b, height)[0][0] {
			return height
		}
	}
	return -1
}

// firstWalk returns the first walk of at most a height, of rolls of any length.
func firstWalk(a, b align.Roll, height int) []align.Pair {
	on := reaching(a, b, height)
	walk := []align.Pair{{}}
	for p := walk[0]; p != lastOf(a, b); walk = append(walk, p) {
		moves := movesFrom(a, b, p)
		p = moves[slices.IndexFunc(moves, func(q align.Pair) bool { return on[q.First][q.Second] })]
	}
	return walk
}

// countOf returns how many walks have at most a height, or 2^52 if there are so many of them or more.
func countOf(a, b align.Roll, height int) int {
	table := map[align.Pair]*big.Int{}
	for i := range a {
		for k := range b {
			p := align.Pair{First: i, Second: k}
			n := new(big.Int)
			if p == (align.Pair{}) {
				n.SetInt64(1)
			}
			for _, q := range pairs(i-1, k-1, i-1, k, i, k-1) {
				if isPair(a, b, q) {
					n.Add(n, table[q])
				}
			}
			if far(a, b, p) > height {
				n.SetInt64(0)
			}
			table[p] = n
		}
	}
	n := table[lastOf(a, b)]
	if n.Cmp(big.NewInt(1<<52)) >= 0 {
		return 1 << 52
	}
	return int(n.Int64())
}

// errorOfWalk returns the error that pairs have as a walk.
func errorOfWalk(a, b align.Roll, walk []align.Pair) api.Errno {
	if len(walk) == 0 {
		return api.ErrEmpty
	}
	for i, p := range walk {
		if !isPair(a, b, p) {
			return api.ErrNone
		}
		if i == 0 && (p.First != 0 || p.Second != 0) {
			return api.ErrOrder
		}
		if i > 0 && !slices.Contains(movesFrom(a, b, walk[i-1]), p) {
			return api.ErrOrder
		}
	}
	if walk[len(walk)-1] != lastOf(a, b) {
		return api.ErrGap
	}
	return api.OK
}

// canCome reports whether a pair (x, y) can come right after a pair (i, k) in a barrier.
func canCome(before, next align.Pair) bool {
	i, k, x, y := before.First, before.Second, next.First, next.Second
	return x <= i+1 && y >= k-1 && !(x == i+1 && y == k-1)
}

// isFirst and isLast report whether a pair can be the first one, or the last one, of a barrier.
func isFirst(a, b align.Roll, p align.Pair) bool { return p.First == 0 || p.Second == len(b)-1 }
func isLast(a, b align.Roll, p align.Pair) bool  { return p.First == len(a)-1 || p.Second == 0 }

// errorOfBarrier returns the error that pairs have as a barrier for a height.
func errorOfBarrier(a, b align.Roll, height int, barrier []align.Pair) api.Errno {
	if len(barrier) == 0 {
		return api.ErrEmpty
	}
	for i, p := range barrier {
		if !isPair(a, b, p) {
			return api.ErrNone
		}
		if i > 0 && !canCome(barrier[i-1], p) {
			return api.ErrGap
		}
		if far(a, b, p) <= height {
			return api.ErrProof
		}
	}
	if !isFirst(a, b, barrier[0]) || !isLast(a, b, barrier[len(barrier)-1]) {
		return api.ErrOrder
	}
	return api.OK
}

// event returns an event.
func event(key, loud, gap int) align.Event { return align.Event{Key: key, Loud: loud, Gap: gap} }

// roll returns a roll: key, loud, gap, and so on.
func roll(l ...int) align.Roll {
	var out align.Roll
	for i := 0; i+2 < len(l); i += 3 {
		out = append(out, event(l[i], l[i+1], l[i+2]))
	}
	return out
}

// loud returns a roll of one key, with events that are so loud.
func loud(l ...int) align.Roll {
	var out align.Roll
	for _, n := range l {
		out = append(out, event(7, n, 3))
	}
	return out
}

// same returns a roll of so many times the same event.
func same(n int) align.Roll { return loud(make([]int, n)...) }

// pairs returns pairs: two numbers each.
func pairs(l ...int) []align.Pair {
	var out []align.Pair
	for i := 0; i+1 < len(l); i += 2 {
		out = append(out, align.Pair{First: l[i], Second: l[i+1]})
	}
	return out
}

// exampleA, exampleB and exampleC are A, B and C of the chapter's examples.
func exampleA() align.Roll { return roll(40, 50, 0, 42, 60, 10, 44, 70, 12) }
func exampleB() align.Roll { return roll(40, 52, 0, 42, 60, 11, 42, 61, 10, 44, 66, 12) }
func exampleC() align.Roll { return roll(40, 50, 0, 44, 70, 10) }

// newRandom returns the numbers that all runs of the tests share.
func newRandom() *rand.Rand { return rand.New(rand.NewSource(60)) }

// between returns a number from a least to a greatest one.
func between(r *rand.Rand, least, greatest int) int {
	return least + r.Intn(greatest-least+1)
}

// rollWithin returns a roll of events with keys, loudnesses and gaps up to greatest ones.
func rollWithin(r *rand.Rand, n, keys, loud, gap int) align.Roll {
	var out align.Roll
	for range n {
		out = append(out, event(between(r, 1, keys), between(r, 0, loud), between(r, 0, gap)))
	}
	return out
}

// extremeRoll returns a roll of events with the least and the greatest numbers.
func extremeRoll(r *rand.Rand, n int) align.Roll {
	var out align.Roll
	for range n {
		out = append(out, event(1+87*r.Intn(2), 1000*r.Intn(2), 1000*r.Intn(2)))
	}
	return out
}

// anyRoll returns a roll of any sort.
func anyRoll(r *rand.Rand, n int) align.Roll {
	switch r.Intn(5) {
	case 0:
		return rollWithin(r, n, 2, 4, 2)
	case 1:
		return rollWithin(r, n, 1, 30, 3)
	case 2:
		return rollWithin(r, n, 1, 1000, 1000)
	case 3:
		return rollWithin(r, n, 88, 1000, 1000)
	}
	return extremeRoll(r, n)
}

// limited returns a number, or the nearest one from 0 to a greatest one.
func limited(n, greatest int) int { return max(0, min(n, greatest)) }

// played returns another performance of a roll, of at most so many events: some come twice, a few are missing, and all are changed a little.
func played(r *rand.Rand, l align.Roll, most int) align.Roll {
	var out align.Roll
	off := r.Intn(6)
	for _, e := range l {
		n := []int{1, 1, 1, 2, 3}[r.Intn(5)]
		if r.Intn(40) == 0 {
			n = 0
		}
		for range n {
			out = append(out, event(e.Key, limited(e.Loud+between(r, -off, off), 1000), limited(e.Gap+between(r, -off, off), 1000)))
		}
	}
	if len(out) == 0 {
		return slices.Clone(l)
	}
	return out[:min(len(out), most)]
}

// anyRolls returns two rolls of at most so many events; often they are nearly one performance.
func anyRolls(r *rand.Rand, most int) (a, b align.Roll) {
	a = anyRoll(r, between(r, 1, most))
	if r.Intn(3) == 0 {
		b = rollWithin(r, between(r, 1, most), 1, 30, 3)
		return rollWithin(r, len(a), 1, 30, 3), b
	}
	b = played(r, a, most)
	if r.Intn(4) == 0 {
		b = anyRoll(r, between(r, 1, most))
	}
	if r.Intn(2) == 0 {
		return b, a
	}
	return a, b
}

// anyHeight returns a height that often is that of a pair, or just below it.
func anyHeight(r *rand.Rand, a, b align.Roll) int {
	switch r.Intn(4) {
	case 0:
		return gapOf(a, b) - r.Intn(2)
	case 1:
		return between(r, -1, 1000001)
	}
	return distanceOf(a[r.Intn(len(a))], b[r.Intn(len(b))]) - r.Intn(2)
}
