package hand_test

import (
	"math"
	"math/rand"
	"reflect"
	"slices"
	"testing"

	"pianola/api"
	"pianola/hand"
)

// must fails a test if there is an error.
func must(t *testing.T, e api.Errno) {
	t.Helper()
	if e != api.OK {
		t.Fatalf("error %d", e)
	}
}

// told is what the calls tell of two samples.
type told struct {
	beats, few, many, all int
	chance                api.Ratio
}

// tell returns what the calls tell of two samples.
func tell(t *testing.T, a, b []int) told {
	t.Helper()
	var x told
	var e, f, g api.Errno
	x.beats, e = hand.Beats(a, b)
	x.few, x.many, x.all, f = hand.Tails(a, b)
	x.chance, g = hand.Chance(a, b)
	must(t, max(e, f, g))
	return x
}

// pairing is what Paired tells of two samples.
type pairing struct {
	sum    int
	chance api.Ratio
}

// pair returns what Paired tells of two samples.
func pair(t *testing.T, a, b []int) pairing {
	t.Helper()
	sum, chance, e := hand.Paired(a, b)
	must(t, e)
	return pairing{sum, chance}
}

// want returns what the reference tells of two samples with a spread.
func want(s spread, a, b []int) told {
	beats := beatsOf(a, b)
	return told{beats, s.sum(0, beats), s.sum(beats, len(s)), s.all(), s.chanceOf(a, b)}
}

// P10.1: the ranks are those of the reference.
func TestRanksAreExact(t *testing.T) {
	r := newRandom()
	for range 1000 {
		l := anySample(r, between(r, 1, 16))
		if got, e := hand.Ranks(l); !slices.Equal(got, ranksOf(l)) || e != api.OK {
			t.Fatalf("Ranks of %v: %v, %d, want %v", l, got, e, ranksOf(l))
		}
	}
}

// P10.2 to P10.4 and P10.8 (G3): what is told of two small samples is what all choices show, one by one.
func TestAllChoices(t *testing.T) {
	r := newRandom()
	for range 600 {
		a, b := anySample(r, between(r, 1, 5)), anySample(r, between(r, 1, 5))
		s := tryAll(a, b)
		if got := tell(t, a, b); got != want(s, a, b) {
			t.Fatalf("%v and %v: %v, want %v", a, b, got, want(s, a, b))
		}
		if s != byValue(a, b) {
			t.Fatalf("the reference differs from itself for %v and %v", a, b)
		}
	}
	a, b := list(1, 5, 5, 9, -3, 7, 2, 30), list(5, 9, 9, 12, 4, -3, 31)
	if got := tell(t, a, b); got != want(tryAll(a, b), a, b) {
		t.Fatalf("%v and %v: %v", a, b, got)
	}
}

// P10.2 to P10.4: what is told of two large samples is what the reference counts value by value.
func TestLargeSamples(t *testing.T) {
	r := newRandom()
	for range 80 {
		a, b := anySample(r, between(r, 1, 16)), anySample(r, between(r, 1, 16))
		if r.Intn(2) == 0 {
			a, b = anySample(r, 16), anySample(r, 16)
		}
		if got := tell(t, a, b); got != want(byValue(a, b), a, b) {
			t.Fatalf("%v and %v: %v, want %v", a, b, got, want(byValue(a, b), a, b))
		}
	}
}

// P10.5 and P10.8: the signed sum and the paired chance are what all swaps show, one by one.
func TestAllSwaps(t *testing.T) {
	r := newRandom()
	for i := range 600 {
		n := between(r, 1, 7)
		if i%200 == 0 {
			n = 14 + i/200
		}
		a, b := anySample(r, n), anySample(r, n)
		if got, want := pair(t, a, b), (pairing{signedSumOf(a, b), pairedOf(a, b)}); got != want {
			t.Fatalf("Paired of %v and %v: %v, want %v", a, b, got, want)
		}
	}
}

// P10.8: few and many together are all, and the number of choices with just as many beats.
func TestTailsTogether(t *testing.T) {
	r := newRandom()
	for range 100 {
		a, b := anySample(r, between(r, 1, 16)), anySample(r, between(r, 1, 16))
		x := tell(t, a, b)
		if just := byValue(a, b)[x.beats]; x.few+x.many != x.all+just {
			t.Fatalf("%v and %v: %v, and %d have as many beats", a, b, x, just)
		}
	}
}

// neverTooOften fails a test if chances of at most some level are more often than this. It is enough to look at levels that are chances, since no more of them are at most a level in between.
func neverTooOften(t *testing.T, chances []api.Ratio) {
	t.Helper()
	for _, level := range chances {
		n := 0
		for _, c := range chances {
			if compared(c, level) <= 0 {
				n++
			}
		}
		if compared(part(n, len(chances)), level) > 0 {
			t.Fatalf("%d of %d chances are at most %v", n, len(chances), level)
		}
	}
}

// P10.9: of all choices, and of all swaps, no more have a chance of at most some level than it allows.
func TestNeverTooOften(t *testing.T) {
	r := newRandom()
	for range 25 {
		a, b := anySample(r, between(r, 1, 5)), anySample(r, between(r, 1, 4))
		var chances, swaps []api.Ratio
		for _, c := range allChoices(a, b) {
			chances = append(chances, tell(t, c[0], c[1]).chance)
		}
		neverTooOften(t, chances)
		b = anySample(r, len(a))
		for set := range 1 << len(a) {
			first, second := swapped(a, b, set)
			swaps = append(swaps, pair(t, first, second).chance)
		}
		neverTooOften(t, swaps)
	}
}

// P10.10 (G5): exchanged samples show the same from the other side.
func TestExchanged(t *testing.T) {
	r := newRandom()
	for range 100 {
		n := between(r, 1, 16)
		a, b := anySample(r, n), anySample(r, between(r, 1, 16))
		x, y := tell(t, a, b), tell(t, b, a)
		if y != (told{2*len(a)*len(b) - x.beats, x.many, x.few, x.all, x.chance}) {
			t.Fatalf("%v and %v: %v, exchanged %v", a, b, x, y)
		}
		b = anySample(r, n)
		if p, q := pair(t, a, b), pair(t, b, a); q != (pairing{-p.sum, p.chance}) {
			t.Fatalf("pairs of %v and %v: %v, exchanged %v", a, b, p, q)
		}
	}
}

// P10.10 (G5): the order of elements does not matter, and for pairs that of pairs.
func TestOrder(t *testing.T) {
	r := newRandom()
	for range 100 {
		n := between(r, 1, 16)
		a, b := anySample(r, n), anySample(r, between(r, 1, 16))
		if x, y := tell(t, a, b), tell(t, shuffled(r, a), shuffled(r, b)); x != y {
			t.Fatalf("%v and %v: %v, in another order %v", a, b, x, y)
		}
		b = anySample(r, n)
		var a2, b2 []int
		for _, i := range r.Perm(n) {
			a2, b2 = append(a2, a[i]), append(b2, b[i])
		}
		if x, y := pair(t, a, b), pair(t, a2, b2); x != y {
			t.Fatalf("pairs of %v and %v: %v, in another order %v", a, b, x, y)
		}
	}
}

// P10.11: moved and multiplied delays show the same, and negated ones from the other side.
func TestMoved(t *testing.T) {
	r := newRandom()
	for range 100 {
		n, factor, more := between(r, 1, 16), between(r, 1, 100), between(r, -50000, 50000)
		a, b := anySample(r, n), anySample(r, n)
		for i := range n {
			a[i], b[i] = a[i]%500, b[i]%500
		}
		x, p := tell(t, a, b), pair(t, a, b)
		move := func(n int) int { return n*factor + more }
		if y, q := tell(t, mapped(a, move), mapped(b, move)), pair(t, mapped(a, move), mapped(b, move)); x != y || p != q {
			t.Fatalf("%v and %v: %v %v, times %d and %d more: %v %v", a, b, x, p, factor, more, y, q)
		}
		negate := func(n int) int { return -n }
		y, q := tell(t, mapped(a, negate), mapped(b, negate)), pair(t, mapped(a, negate), mapped(b, negate))
		if y != (told{2*n*n - x.beats, x.many, x.few, x.all, x.chance}) || q != (pairing{-p.sum, p.chance}) {
			t.Fatalf("%v and %v: %v %v, negated: %v %v", a, b, x, p, y, q)
		}
	}
}

// P10.12: if each element of one sample is smaller than each one of the other, no choice is farther.
func TestFarthest(t *testing.T) {
	r := newRandom()
	for range 100 {
		a, b := anySample(r, between(r, 1, 16)), anySample(r, between(r, 1, 16))
		for i := range a {
			a[i] = -max(a[i], -a[i])
		}
		for i := range b {
			b[i] = min(max(b[i], -b[i])+1, hand.MaxDelay)
		}
		x := tell(t, a, b)
		if x.beats != 2*len(a)*len(b) || x.few != x.all || x.many != 1 || x.chance != ratioOf(1, x.all) && x.chance != ratioOf(2, x.all) {
			t.Fatalf("%v and %v: %v", a, b, x)
		}
	}
}

// P10.12: the beats do not become fewer if an element of the first sample becomes smaller, or one of the second sample greater.
func TestMoreBeats(t *testing.T) {
	r := newRandom()
	for range 1000 {
		a, b := anySample(r, between(r, 1, 16)), anySample(r, between(r, 1, 16))
		before, e := hand.Beats(a, b)
		must(t, e)
		if r.Intn(2) == 0 {
			i := r.Intn(len(a))
			a[i] = between(r, max(a[i]-3, -hand.MaxDelay), a[i])
		} else {
			i := r.Intn(len(b))
			b[i] = between(r, b[i], min(b[i]+3, hand.MaxDelay))
		}
		if after, e := hand.Beats(a, b); after < before || e != api.OK {
			t.Fatalf("%v and %v: %d beats, %d, and %d before", a, b, after, e, before)
		}
	}
}

// P10.6 and P10.13 (G1, G3): the beats of all truths lie within, and both ends occur.
func TestWithinIsExact(t *testing.T) {
	r := newRandom()
	for range 300 {
		a, b := anySpans(r, between(r, 1, 3), -2, 2), anySpans(r, between(r, 1, 3), -2, 2)
		least, greatest := math.MaxInt, math.MinInt
		for _, x := range truths(a) {
			for _, y := range truths(b) {
				beats := beatsOf(x, y)
				least, greatest = min(least, beats), max(greatest, beats)
			}
		}
		if s, e := hand.Within(a, b); s != spans(least, greatest)[0] || e != api.OK {
			t.Fatalf("Within of %v and %v: %v, %d, want %d to %d", a, b, s, e, least, greatest)
		}
	}
}

// anyTruth returns a value of each span, often one of its bounds.
func anyTruth(r *rand.Rand, l []api.Span) []int {
	var out []int
	for _, s := range l {
		out = append(out, list(s.Lo, s.Hi, between(r, s.Lo, s.Hi))[r.Intn(3)])
	}
	return out
}

// narrowed returns spans within others.
func narrowed(r *rand.Rand, l []api.Span) []api.Span {
	var out []api.Span
	for _, s := range l {
		out = append(out, anySpans(r, 1, s.Lo, s.Hi)...)
	}
	return out
}

// P10.13 (G1): the beats of any truth lie within, and spans within others do not make this span wider.
func TestMoreIsKnown(t *testing.T) {
	r := newRandom()
	for range 1000 {
		reach := list(3, 30, hand.MaxDelay)[r.Intn(3)]
		a, b := anySpans(r, between(r, 1, 16), -reach, reach), anySpans(r, between(r, 1, 16), -reach, reach)
		s, e := hand.Within(a, b)
		must(t, e)
		x, y := anyTruth(r, a), anyTruth(r, b)
		if n, e := hand.Beats(x, y); n < s.Lo || n > s.Hi || e != api.OK {
			t.Fatalf("Within of %v and %v: %v, but %v and %v have %d beats, %d", a, b, s, x, y, n, e)
		}
		if n, e := hand.Within(narrowed(r, a), narrowed(r, b)); n.Lo < s.Lo || n.Hi > s.Hi || e != api.OK {
			t.Fatalf("Within of %v and %v: %v, but of narrower spans %v, %d", a, b, s, n, e)
		}
	}
}

// P10.7: what Judge says is what the chances of the reference say; often the level is just one of them.
func TestJudgeIsExact(t *testing.T) {
	r := newRandom()
	just := 0
	for range 200 {
		roll := anySample(r, between(r, 1, 6))
		var rolls [][]int
		var chances []api.Ratio
		for range between(r, 1, 12) {
			rolls = append(rolls, anySample(r, between(r, 1, 6)))
			last := rolls[len(rolls)-1]
			chances = append(chances, byValue(last, roll).chanceOf(last, roll))
		}
		level := chances[r.Intn(len(chances))]
		if r.Intn(3) == 0 {
			level = part(r.Intn(hand.MaxLevel+1), between(r, 1, hand.MaxLevel))
		}
		var verdicts []int
		closest := 0
		for i, c := range chances {
			verdict := hand.Open
			if compared(c, level) <= 0 {
				verdict = hand.Other
			}
			if c == level && c != part(1, 1) {
				just++
			}
			verdicts = append(verdicts, verdict)
			if compared(c, chances[closest]) > 0 {
				closest = i
			}
		}
		if l, n, e := hand.Judge(rolls, roll, level); !slices.Equal(l, verdicts) || n != closest || e != api.OK {
			t.Fatalf("Judge of %v, %v, %v: %v, %d, %d, want %v, %d", rolls, roll, level, l, n, e, verdicts, closest)
		}
	}
	if just < 50 {
		t.Fatalf("just %d levels are chances", just)
	}
}

// R3: nil lists and empty ones are equivalent.
func TestNilIsEmpty(t *testing.T) {
	if a, b := everything(nil, nil), everything(list(), list()); !reflect.DeepEqual(a, b) {
		t.Errorf("%v for nil lists, %v for empty ones", a, b)
	}
	_, _, e := hand.Judge(nil, list(1), part(1, 1))
	_, _, f := hand.Judge([][]int{}, list(1), part(1, 1))
	_, g := hand.Within(nil, spans(1, 1))
	_, h := hand.Within(spans(), spans(1, 1))
	if e != f || g != h {
		t.Errorf("%d and %d, %d and %d", e, f, g, h)
	}
}

// everything returns the results of all calls with two samples, those of each call as one list.
func everything(a, b []int) [][]any {
	var all [][]any
	add := func(results ...any) { all = append(all, results) }
	add(hand.Check(a))
	add(hand.Ranks(a))
	add(hand.Beats(a, b))
	add(hand.Tails(a, b))
	add(hand.Chance(a, b))
	add(hand.Paired(a, b))
	return all
}

// others returns the results of the other calls, those of each call as one list.
func others(rolls [][]int, roll []int, level api.Ratio, a, b []api.Span) [][]any {
	var all [][]any
	add := func(results ...any) { all = append(all, results) }
	add(hand.Judge(rolls, roll, level))
	add(hand.Within(a, b))
	return all
}

// spoil overwrites what a result keeps in its memory.
func spoil(calls [][]any) {
	for _, results := range calls {
		for _, result := range results {
			if l, ok := result.([]int); ok {
				for i := range cap(l) {
					l[:cap(l)][i] = -1
				}
			}
		}
	}
}

// copied returns rolls in memory of their own.
func copied(rolls [][]int) [][]int {
	var l [][]int
	for _, roll := range rolls {
		l = append(l, slices.Clone(roll))
	}
	return l
}

// R4 and P1: arguments are not changed, nor is what lies behind them in their memory; results share no memory, and the same arguments give the same results.
func TestNothingIsKept(t *testing.T) {
	r := newRandom()
	for range 200 {
		n := between(r, 1, 8)
		a, b := anySample(r, n), anySample(r, n)
		rolls := [][]int{anySample(r, 16)[:n], anySample(r, 16)[:3], anySample(r, 16)}
		known := rolls[:2]
		x, y := anySpans(r, n, -3, 3), anySpans(r, n, -3, 3)
		call := func() [][]any { return append(everything(a, b), others(known, b, part(1, 9), x, y)...) }
		a2, b2, rolls2, x2, y2 := slices.Clone(a), slices.Clone(b), copied(rolls), slices.Clone(x), slices.Clone(y)
		whole := slices.Clone(rolls[0][:16])
		first, second := call(), call()
		spoil(first)
		if !slices.Equal(a, a2) || !slices.Equal(b, b2) || !reflect.DeepEqual(rolls, rolls2) || !slices.Equal(x, x2) || !slices.Equal(y, y2) || !slices.Equal(whole, rolls[0][:16]) {
			t.Fatalf("arguments are changed: %v %v %v %v %v", a, b, rolls, x, y)
		}
		if third := call(); !reflect.DeepEqual(second, third) {
			t.Fatalf("%v and then %v", second, third)
		}
	}
}

// anyNumber returns a number that is small or extreme.
func anyNumber(r *rand.Rand) int {
	numbers := list(math.MinInt, math.MinInt+1, -1<<32, -100001, -100000, 100000, 100001, 1000000, 1000001, 1<<32, 1<<62, math.MaxInt-1, math.MaxInt)
	if r.Intn(6) == 0 {
		return numbers[r.Intn(len(numbers))]
	}
	return between(r, -2, 4)
}

// anyNumbers returns some numbers, or too many.
func anyNumbers(r *rand.Rand) []int {
	n := r.Intn(5)
	if r.Intn(8) == 0 {
		n = between(r, 15, 18)
	}
	var l []int
	for range n {
		l = append(l, anyNumber(r))
	}
	return l
}

// zeroWithErrors fails a test if a result is not zero with its error, and returns how many calls had none.
func zeroWithErrors(t *testing.T, calls [][]any) int {
	t.Helper()
	right := 0
	for _, results := range calls {
		last := len(results) - 1
		if results[last].(api.Errno) == api.OK {
			right++
			continue
		}
		for _, result := range results[:last] {
			if v := reflect.ValueOf(result); !v.IsZero() && !(v.Kind() == reflect.Slice && v.Len() == 0) {
				t.Fatalf("a result is %v with the error %d", result, results[last])
			}
		}
	}
	return right
}

// P1 (with R2): all calls end for any arguments, and return zero values with an error.
func TestAnyArguments(t *testing.T) {
	r := newRandom()
	right := 0
	for range 5000 {
		right += zeroWithErrors(t, everything(anyNumbers(r), anyNumbers(r)))
		var rolls [][]int
		for range r.Intn(4) * r.Intn(6) {
			rolls = append(rolls, anyNumbers(r))
		}
		var a, b []api.Span
		for range r.Intn(18) {
			a = append(a, api.Span{Lo: anyNumber(r), Hi: anyNumber(r)})
			b = append(b, api.Span{Lo: anyNumber(r), Hi: anyNumber(r)})
		}
		level := part(anyNumber(r), anyNumber(r))
		right += zeroWithErrors(t, others(rolls, anyNumbers(r), level, a, b[:r.Intn(len(b)+1)]))
	}
	if right < 2000 {
		t.Fatalf("just %d calls are right", right)
	}
}
