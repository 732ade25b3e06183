package strip_test

import (
	"math/rand"
	"slices"

	"pianola/strip"
)

// The reference follows the chapter's definitions word by word: it tries all strips for few tubes, and works out the states of many tubes from those that need fewer strips; it knows no bound.

// list returns a list of numbers.
func list(l ...int) []int { return l }

// yes and no return tests with these answers.
func yes(l ...int) strip.Test { return strip.Test{Strip: l, Answer: true} }
func no(l ...int) strip.Test  { return strip.Test{Strip: l} }

// record returns a record.
func record(n, lies int, tests ...strip.Test) strip.Record {
	return strip.Record{N: n, Lies: lies, Tests: tests}
}

// example is the record of the chapter's examples.
func example() strip.Record { return record(4, 1, yes(0, 1), yes(0, 2)) }

// with returns a record with one test more.
func with(r strip.Record, l []int, answer bool) strip.Record {
	r.Tests = append(slices.Clone(r.Tests), strip.Test{Strip: slices.Clone(l), Answer: answer})
	return r
}

// isRight reports whether the answer to a test is right if a tube is blocked.
func isRight(test strip.Test, tube int) bool {
	return test.Answer && slices.Contains(test.Strip, tube) || !test.Answer && !slices.Contains(test.Strip, tube)
}

// mistakesOf returns how many answers of a record are mistakes for each tube.
func mistakesOf(r strip.Record) []int {
	all := make([]int, r.N)
	for tube := range all {
		for _, test := range r.Tests {
			if !isRight(test, tube) {
				all[tube]++
			}
		}
	}
	return all
}

// isExplained reports whether some mistakes, at most so many from a test on, explain all answers if a tube is blocked: it tries all sets of them.
func isExplained(tests []strip.Test, lies, tube int) bool {
	if len(tests) == 0 {
		return true
	}
	if isRight(tests[0], tube) && isExplained(tests[1:], lies, tube) {
		return true
	}
	return lies > 0 && !isRight(tests[0], tube) && isExplained(tests[1:], lies-1, tube)
}

// possibleOf returns the tubes that can be blocked.
func possibleOf(r strip.Record) []int {
	var l []int
	for tube := range r.N {
		if isExplained(r.Tests, r.Lies, tube) {
			l = append(l, tube)
		}
	}
	return l
}

// stateOf returns the state of tubes with so many mistakes.
func stateOf(mistakes []int, lies int) []int {
	state := make([]int, lies+1)
	for _, m := range mistakes {
		if m <= lies {
			state[m]++
		}
	}
	return state
}

// sum returns the sum of numbers.
func sum(l []int) int {
	n := 0
	for _, x := range l {
		n += x
	}
	return n
}

// choose returns n over k.
func choose(n, k int) int {
	switch {
	case k > n:
		return 0
	case k == 0:
		return 1
	}
	return choose(n-1, k-1) + choose(n-1, k)
}

// weightOf returns the weight of a state.
func weightOf(state []int, ahead int) int {
	n, lies := 0, len(state)-1
	for m, tubes := range state {
		for k := 0; k <= lies-m; k++ {
			n += tubes * choose(ahead, k)
		}
	}
	return n
}

// boundOf returns the bound of a state.
func boundOf(state []int) int {
	if sum(state) <= 1 {
		return 0
	}
	for n := 0; ; n++ {
		if power := 1 << n; weightOf(state, n) <= power {
			return n
		}
	}
}

// played returns the mistakes of tubes after the answer to a strip, which is a set of bits.
func played(mistakes []int, set int, answer bool) []int {
	after := slices.Clone(mistakes)
	for tube := range after {
		if (set>>tube&1 == 1) != answer {
			after[tube]++
		}
	}
	return after
}

// game is tubes with mistakes and the number of strips that somebody plays at most.
type game struct {
	mistakes [6]int
	tubes    int
	lies     int
	strips   int
}

// isFound reports whether the fault is surely found with so many strips: it tries all of them, and all answers. Six tubes are the most.
func isFound(mistakes []int, lies, strips int, known map[game]bool) bool {
	if sum(stateOf(mistakes, lies)) <= 1 {
		return true
	}
	if strips == 0 {
		return false
	}
	key := game{tubes: len(mistakes), lies: lies, strips: strips}
	for tube, m := range mistakes {
		key.mistakes[tube] = min(m, lies+1)
	}
	found, ok := known[key]
	for set := 0; !ok && !found && set < 1<<len(mistakes); set++ {
		found = isFound(played(mistakes, set, true), lies, strips-1, known) && isFound(played(mistakes, set, false), lies, strips-1, known)
	}
	known[key] = found
	return found
}

// neededBy returns the needed strips of a few tubes with so many mistakes.
func neededBy(mistakes []int, lies int, known map[game]bool) int {
	n := 0
	for !isFound(mistakes, lies, n, known) {
		n++
	}
	return n
}

// statesOf returns all states with so many lies and at most so many tubes.
func statesOf(lies, most int) [][]int {
	if lies < 0 {
		return [][]int{nil}
	}
	var all [][]int
	for _, state := range statesOf(lies-1, most) {
		for tubes := range most - sum(state) + 1 {
			all = append(all, append(slices.Clone(state), tubes))
		}
	}
	return all
}

// partsOf returns all ways to choose some tubes of a state.
func partsOf(state []int) [][]int {
	if len(state) == 0 {
		return [][]int{nil}
	}
	var all [][]int
	for _, part := range partsOf(state[:len(state)-1]) {
		for tubes := range state[len(state)-1] + 1 {
			all = append(all, append(slices.Clone(part), tubes))
		}
	}
	return all
}

// afterYes and afterNo return the states after an answer to a strip that has a part of the tubes.
func afterYes(state, part []int) []int {
	after := slices.Clone(part)
	for m := range len(state) - 1 {
		after[m+1] += state[m] - part[m]
	}
	return after
}
func afterNo(state, part []int) []int {
	rest := slices.Clone(state)
	for m := range rest {
		rest[m] -= part[m]
	}
	return afterYes(state, rest)
}

// key is a state in a map.
type key [3]int

// keyOf returns the key of a state.
func keyOf(state []int) key {
	var k key
	copy(k[:], state)
	return k
}

// neededOf returns the needed strips of all states with so many lies: of those that need none, then of those that need one, and so on.
func neededOf(lies int) map[key]int {
	needed := map[key]int{}
	waiting := statesOf(lies, strip.MaxTubes)
	for n := 0; len(waiting) > 0; n++ {
		var ready []key
		waiting = slices.DeleteFunc(waiting, func(state []int) bool {
			ok := sum(state) <= 1
			for _, part := range partsOf(state) {
				if ok {
					break
				}
				_, first := needed[keyOf(afterYes(state, part))]
				_, second := needed[keyOf(afterNo(state, part))]
				ok = first && second
			}
			if ok {
				ready = append(ready, keyOf(state))
			}
			return ok
		})
		for _, k := range ready {
			needed[k] = n
		}
	}
	return needed
}

// newRandom returns the numbers that all runs of the tests share.
func newRandom() *rand.Rand { return rand.New(rand.NewSource(80)) }

// between returns a number from a least to a greatest one.
func between(r *rand.Rand, least, greatest int) int {
	return least + r.Intn(greatest-least+1)
}

// anyStrip returns some of so many tubes.
func anyStrip(r *rand.Rand, tubes int) []int {
	var l []int
	part := between(r, 1, 3)
	for tube := range tubes {
		if r.Intn(4) < part {
			l = append(l, tube)
		}
	}
	return l
}

// told returns a record with tests whose answers are right for a tube, but for at most so many mistakes.
func told(r *rand.Rand, n, lies, tests, mistakes int) (strip.Record, int) {
	blocked := r.Intn(n)
	x := record(n, lies)
	for i := range tests {
		l := anyStrip(r, n)
		answer := slices.Contains(l, blocked)
		if mistakes > 0 && r.Intn(tests-i) < mistakes {
			answer = !answer
			mistakes--
		}
		x = with(x, l, answer)
	}
	return x, blocked
}

// anyRecord returns a record with at most so many tubes and tests; the answers of some cannot be true together.
func anyRecord(r *rand.Rand, tubes, tests int) strip.Record {
	lies := r.Intn(3)
	mistakes := between(r, 0, lies)
	if r.Intn(8) == 0 {
		mistakes = lies + 3
	}
	x, _ := told(r, between(r, 1, tubes), lies, between(r, 0, tests), mistakes)
	return x
}

// openRecord returns a record with at least two possible tubes.
func openRecord(r *rand.Rand, tubes, tests int) strip.Record {
	for {
		if x := anyRecord(r, tubes, tests); len(possibleOf(x)) > 1 {
			return x
		}
	}
}

// complement returns all other tubes of so many.
func complement(l []int, tubes int) []int {
	var rest []int
	for tube := range tubes {
		if !slices.Contains(l, tube) {
			rest = append(rest, tube)
		}
	}
	return rest
}
