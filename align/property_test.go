package align_test

import (
	"math"
	"math/rand"
	"reflect"
	"slices"
	"testing"

	"pianola/align"
	"pianola/api"
)

// must fails a test if there is an error.
func must(t *testing.T, e api.Errno) {
	t.Helper()
	if e != api.OK {
		t.Fatalf("error %d", e)
	}
}

// gap returns the gap between two rolls.
func gap(t *testing.T, a, b align.Roll) int {
	t.Helper()
	n, e := align.Gap(a, b)
	must(t, e)
	return n
}

// walks returns how many walks there are.
func walks(t *testing.T, a, b align.Roll, height int) int {
	t.Helper()
	n, e := align.Walks(a, b, height)
	must(t, e)
	return n
}

// P7.1: Distance returns the distance of the definition, in both orders.
func TestDistanceIsExact(t *testing.T) {
	r := newRandom()
	for range 2000 {
		a, b := anyRolls(r, align.MaxEvents)
		p := align.Pair{First: between(r, -1, len(a)), Second: between(r, -1, len(b))}
		got, e := align.Distance(a, b, p)
		if !isPair(a, b, p) {
			if got != 0 || e != api.ErrNone {
				t.Fatalf("Distance(%v, %v, %v) = %d, %d", a, b, p, got, e)
			}
			continue
		}
		back, f := align.Distance(b, a, align.Pair{First: p.Second, Second: p.First})
		if want := far(a, b, p); got != want || back != want || e != api.OK || f != api.OK {
			t.Fatalf("Distance(%v, %v, %v) = %d, %d, and %d, %d, want %d", a, b, p, got, e, back, f, want)
		}
	}
}

// P7.2 and P7.5: of all walks of short rolls none is lower, and none with the same height comes before; all of them are counted.
func TestShortRolls(t *testing.T) {
	r := newRandom()
	for range 1500 {
		a, b := anyRolls(r, 5)
		want, first := bestWalk(a, b)
		walk, e := align.Walk(a, b)
		if n := gap(t, a, b); n != want || e != api.OK || !slices.Equal(walk, first) {
			t.Fatalf("Gap(%v, %v) = %d, Walk %v, %d, want %d, %v", a, b, n, walk, e, want, first)
		}
		for range 5 {
			height, n := max(0, anyHeight(r, a, b)), 0
			for _, w := range walksFrom(a, b, align.Pair{}) {
				if heightOf(a, b, w) <= height {
					n++
				}
			}
			if got := walks(t, a, b, height); got != n {
				t.Fatalf("Walks(%v, %v, %d) = %d, want %d", a, b, height, got, n)
			}
		}
	}
}

// P7.2 and P7.5: the same for rolls of any length.
func TestLongRolls(t *testing.T) {
	r := newRandom()
	near, never, within := 0, 0, 0
	for range 400 {
		a, b := anyRolls(r, align.MaxEvents)
		want := gapOf(a, b)
		walk, e := align.Walk(a, b)
		if n := gap(t, a, b); n != want || e != api.OK || !slices.Equal(walk, firstWalk(a, b, want)) {
			t.Fatalf("Gap(%v, %v) = %d, Walk %v, %d, want %d", a, b, n, walk, e, want)
		}
		if want < 100 && len(walk) > 10 {
			near++
		}
		for range 4 {
			height := max(0, anyHeight(r, a, b))
			n := countOf(a, b, height)
			if got := walks(t, a, b, height); got != n {
				t.Fatalf("Walks(%v, %v, %d) = %d, want %d", a, b, height, got, n)
			}
			if n == api.Never {
				never++
			} else if n > 1000000 {
				within++
			}
		}
	}
	if near < 100 || never < 30 || within < 100 {
		t.Fatalf("%d walks are low, %d counts are Never, and %d are great", near, never, within)
	}
}

// changed returns pairs with a little change, or none.
func changed(r *rand.Rand, l []align.Pair) []align.Pair {
	l = slices.Clone(l)
	if len(l) == 0 {
		return l
	}
	i := r.Intn(len(l))
	switch r.Intn(6) {
	case 0:
		return slices.Delete(l, i, i+1)
	case 1:
		return slices.Insert(l, i, l[i])
	case 2:
		return l[:i]
	case 3:
		l[i].First += between(r, -2, 2)
	case 4:
		l[i].Second += between(r, -2, 2)
	}
	return l
}

// anyWalk returns a walk, made of any moves.
func anyWalk(r *rand.Rand, a, b align.Roll) []align.Pair {
	walk := []align.Pair{{}}
	for p := walk[0]; p != lastOf(a, b); walk = append(walk, p) {
		moves := movesFrom(a, b, p)
		p = moves[r.Intn(len(moves))]
	}
	return walk
}

// P7.3 and P7.6: Height accepts just the walks, and the height of each one is at least the gap.
func TestHeightIsExact(t *testing.T) {
	r := newRandom()
	count := map[api.Errno]int{}
	for range 3000 {
		a, b := anyRolls(r, 1+r.Intn(align.MaxEvents))
		walk := changed(r, anyWalk(r, a, b))
		if r.Intn(4) == 0 {
			walk = changed(r, walk)
		}
		got, e := align.Height(a, b, walk)
		want := errorOfWalk(a, b, walk)
		count[want]++
		if e != want || want != api.OK && got != 0 || want == api.OK && got != heightOf(a, b, walk) {
			t.Fatalf("Height(%v, %v, %v) = %d, %d, want %d", a, b, walk, got, e, want)
		}
		if n := gap(t, a, b); want == api.OK && got < n {
			t.Fatalf("Height(%v, %v, %v) = %d, but the gap is %d", a, b, walk, got, n)
		}
	}
	for _, e := range []api.Errno{api.OK, api.ErrEmpty, api.ErrNone, api.ErrOrder, api.ErrGap} {
		if count[e] < 20 {
			t.Fatalf("%d walks have the error %d", count[e], e)
		}
	}
}

// anyBarrier returns pairs above a height, most of which can come one after the other, as long as nothing ends them; often they are a barrier.
func anyBarrier(r *rand.Rand, a, b align.Roll, height int) []align.Pair {
	var high, l []align.Pair
	for i := range a {
		for k := range b {
			if p := (align.Pair{First: i, Second: k}); far(a, b, p) > height || r.Intn(50) == 0 {
				high = append(high, p)
			}
		}
	}
	choose := func(ok func(align.Pair) bool) bool {
		some := slices.DeleteFunc(slices.Clone(high), func(p align.Pair) bool { return !ok(p) })
		if len(some) == 0 {
			return false
		}
		l = append(l, some[r.Intn(len(some))])
		return true
	}
	if !choose(func(p align.Pair) bool { return isFirst(a, b, p) || r.Intn(200) == 0 }) {
		return nil
	}
	for range 40 {
		last := l[len(l)-1]
		if isLast(a, b, last) && r.Intn(10) > 0 {
			return l
		}
		if !choose(func(p align.Pair) bool { return canCome(last, p) || r.Intn(500) == 0 }) {
			return l
		}
	}
	return l
}

// P7.4 and P7.6: Verify accepts just the barriers, and the gap is greater then, and there is no walk.
func TestVerifyIsExact(t *testing.T) {
	r := newRandom()
	count := map[api.Errno]int{}
	for range 4000 {
		a, b := anyRolls(r, 1+r.Intn(12))
		height := anyHeight(r, a, b)
		barrier := anyBarrier(r, a, b, height)
		if r.Intn(4) == 0 {
			barrier = changed(r, barrier)
		}
		e := align.Verify(a, b, height, barrier)
		want := errorOfBarrier(a, b, height, barrier)
		count[want]++
		if e != want {
			t.Fatalf("Verify(%v, %v, %d, %v) = %d, want %d", a, b, height, barrier, e, want)
		}
		if n := gap(t, a, b); want == api.OK && n <= height {
			t.Fatalf("%v is a barrier for %d of %v and %v, but the gap is %d", barrier, height, a, b, n)
		}
	}
	for _, e := range []api.Errno{api.OK, api.ErrEmpty, api.ErrNone, api.ErrGap, api.ErrProof, api.ErrOrder} {
		if count[e] < 20 {
			t.Fatalf("%d barriers have the error %d", count[e], e)
		}
	}
}

// P7.4, P7.6 and P7.7: for each height there is either a walk, and walks are counted, or a barrier, and not both.
func TestEither(t *testing.T) {
	r := newRandom()
	long := 0
	for range 600 {
		a, b := anyRolls(r, align.MaxEvents)
		n := gap(t, a, b)
		walk, e := align.Walk(a, b)
		must(t, e)
		for _, height := range []int{n - 1, n, anyHeight(r, a, b), math.MinInt, math.MaxInt} {
			barrier, e := align.Barrier(a, b, height)
			if height >= 0 && (walks(t, a, b, height) > 0) != (height >= n) {
				t.Fatalf("Walks(%v, %v, %d) = %d, but the gap is %d", a, b, height, walks(t, a, b, height), n)
			}
			if height >= n {
				if len(barrier) > 0 || e != api.ErrNone || heightOf(a, b, walk) > height {
					t.Fatalf("Barrier(%v, %v, %d) = %v, %d, but the gap is %d", a, b, height, barrier, e, n)
				}
				continue
			}
			if e != api.OK || errorOfBarrier(a, b, height, barrier) != api.OK || align.Verify(a, b, height, barrier) != api.OK {
				t.Fatalf("Barrier(%v, %v, %d) = %v, %d, but the gap is %d", a, b, height, barrier, e, n)
			}
			if len(barrier) > 5 {
				long++
			}
		}
	}
	if long < 100 {
		t.Fatalf("only %d barriers are long", long)
	}
}

// P7.8: the gap is 0 for a roll and itself, the same in both orders, and no greater than by way of a third roll.
func TestGapIsADistance(t *testing.T) {
	r := newRandom()
	for range 500 {
		a, b := anyRolls(r, align.MaxEvents)
		c := played(r, b, align.MaxEvents)
		if n := gap(t, a, a); n != 0 {
			t.Fatalf("Gap(%v, itself) = %d", a, n)
		}
		ab, ba, bc, ac := gap(t, a, b), gap(t, b, a), gap(t, b, c), gap(t, a, c)
		if ab != ba || ac > ab+bc {
			t.Fatalf("%v, %v, %v: %d, back %d; %d; %d", a, b, c, ab, ba, bc, ac)
		}
	}
}

// P7.9 (G5): with an event that is repeated the gap to every roll is the same.
func TestRepeats(t *testing.T) {
	r := newRandom()
	for range 500 {
		a, b := anyRolls(r, align.MaxEvents-3)
		more := slices.Clone(a)
		for range 1 + r.Intn(3) {
			i := r.Intn(len(more))
			more = slices.Insert(more, i, more[i])
		}
		if m, n := gap(t, a, b), gap(t, more, b); m != n {
			t.Fatalf("Gap(%v, %v) = %d; %v: %d", a, b, m, more, n)
		}
		if n := gap(t, more, a); n != 0 {
			t.Fatalf("Gap(%v, %v) = %d", more, a, n)
		}
	}
}

// P7.10: if Loud of one event changes by a number, the gap changes by at most that.
func TestSmallChanges(t *testing.T) {
	r := newRandom()
	for range 1000 {
		a, b := anyRolls(r, align.MaxEvents)
		other := slices.Clone(a)
		i := r.Intn(len(a))
		other[i].Loud = limited(a[i].Loud+between(r, -20, 20), align.MaxLoud)
		m, n := gap(t, a, b), gap(t, other, b)
		if abs(m-n) > abs(a[i].Loud-other[i].Loud) {
			t.Fatalf("Gap(%v, %v) = %d; %v: %d", a, b, m, other, n)
		}
	}
}

// turned returns a roll in the opposite order.
func turned(l align.Roll) align.Roll {
	l = slices.Clone(l)
	slices.Reverse(l)
	return l
}

// P7.11: in the opposite order the gap is the same, and the number of walks.
func TestTurned(t *testing.T) {
	r := newRandom()
	for range 500 {
		a, b := anyRolls(r, align.MaxEvents)
		c, d := turned(a), turned(b)
		if m, n := gap(t, a, b), gap(t, c, d); m != n {
			t.Fatalf("Gap(%v, %v) = %d, turned around %d", a, b, m, n)
		}
		height := max(0, anyHeight(r, a, b))
		if m, n := walks(t, a, b, height), walks(t, c, d, height); m != n {
			t.Fatalf("Walks(%v, %v, %d) = %d, turned around %d", a, b, height, m, n)
		}
	}
}

// everything returns the results of all calls.
func everything(a, b align.Roll, p align.Pair, l []align.Pair, height int) []any {
	var all []any
	add := func(results ...any) { all = append(all, results...) }
	add(align.Check(a, b))
	add(align.Distance(a, b, p))
	add(align.Gap(a, b))
	add(align.Walk(a, b))
	add(align.Height(a, b, l))
	add(align.Barrier(a, b, height))
	add(align.Verify(a, b, height, l))
	add(align.Walks(a, b, height))
	return all
}

// R4 and P1: arguments are not changed, results share no memory, and the same arguments give the same results.
func TestNothingIsKept(t *testing.T) {
	r := newRandom()
	for range 100 {
		a, b := anyRolls(r, align.MaxEvents)
		height := gapOf(a, b) - 1
		l := anyWalk(r, a, b)
		if r.Intn(2) == 0 {
			l = anyBarrier(r, a, b, height)
		}
		call := func() []any { return everything(a, b, align.Pair{}, l, height) }
		a2, b2, l2 := slices.Clone(a), slices.Clone(b), slices.Clone(l)
		first, second := call(), call()
		for _, x := range first {
			if some, ok := x.([]align.Pair); ok {
				for i := range cap(some) {
					some[:cap(some)][i] = align.Pair{First: -1, Second: -1}
				}
			}
		}
		if !slices.Equal(a, a2) || !slices.Equal(b, b2) || !slices.Equal(l, l2) {
			t.Fatalf("%v %v %v are changed to %v %v %v", a2, b2, l2, a, b, l)
		}
		if third := call(); !reflect.DeepEqual(second, third) {
			t.Fatalf("%v and then %v", second, third)
		}
	}
}

// P1 (with R2): all calls end for any arguments, and return zero values with an error.
func TestAnyArguments(t *testing.T) {
	r := newRandom()
	numbers := []int{math.MinInt, math.MinInt + 1, -1000001, -1, 0, 1, 2, 3, 29, 30, 31, 88, 89, 1000, 1001, 999999, 1000000, 1000001, 1 << 52, 1 << 62, math.MaxInt - 1, math.MaxInt}
	pick := func() int { return numbers[r.Intn(len(numbers))] }
	some := func(n int) []int {
		var l []int
		for range n {
			l = append(l, pick())
		}
		return l
	}
	for range 10000 {
		a, b := roll(some(3*r.Intn(3))...), roll(some(3*r.Intn(3))...)
		if r.Intn(3) > 0 {
			a, b = anyRolls(r, 5)
		}
		l := pairs(some(2 * r.Intn(4))...)
		if r.Intn(3) == 0 && len(a) > 0 && len(b) > 0 {
			l = append(anyWalk(r, a, b), l...)
		}
		from := 0
		all := everything(a, b, align.Pair{First: pick(), Second: pick()}, l, pick())
		for i, x := range all {
			e, isError := x.(api.Errno)
			if !isError {
				continue
			}
			for _, result := range all[from:i] {
				if v := reflect.ValueOf(result); e != api.OK && !(v.IsZero() || v.Kind() == reflect.Slice && v.Len() == 0) {
					t.Fatalf("%v, %v, %v: a result is %v with the error %d", a, b, l, result, e)
				}
			}
			from = i + 1
		}
	}
}
