package level_test

import (
	"math"
	"math/big"
	"math/rand"
	"reflect"
	"slices"
	"testing"

	"pianola/api"
	"pianola/level"
)

// must fails a test if there is an error.
func must(t *testing.T, e api.Errno) {
	t.Helper()
	if e != api.OK {
		t.Fatalf("error %d", e)
	}
}

// best returns the line and the error of Best, as fractions.
func best(t *testing.T, l []level.Code) (gain, offset, worst *big.Rat) {
	t.Helper()
	line, e, err := level.Best(l)
	must(t, err)
	if !isLine(line) || !isLowest(e) {
		t.Fatalf("Best(%v) = %v, %v", l, line, e)
	}
	return rat(line.Gain), rat(line.Offset), rat(e)
}

// gains returns what Gains returns without an error, as fractions.
func gains(t *testing.T, l []level.Code, bound api.Ratio) (least, most *big.Rat) {
	t.Helper()
	lo, hi, e := level.Gains(l, bound)
	must(t, e)
	if !isLowest(lo) || !isLowest(hi) {
		t.Fatalf("Gains(%v, %v) = %v, %v", l, bound, lo, hi)
	}
	return rat(lo), rat(hi)
}

// anyRatio returns a fraction with a Num from a least to a greatest one, and a Den as stated.
func anyRatio(r *rand.Rand, least, greatest int) api.Ratio {
	switch r.Intn(3) {
	case 0:
		return part(between(r, max(least, -30), min(greatest, 30)), between(r, 1, 5))
	case 1:
		return part([]int{least, greatest}[r.Intn(2)], between(r, level.MaxDen-5, level.MaxDen))
	}
	return part(between(r, least, greatest), between(r, 1, level.MaxDen))
}

// anyBound returns a bound that often is near to the best error of a coding, or is just that.
func anyBound(t *testing.T, r *rand.Rand, l []level.Code) api.Ratio {
	t.Helper()
	_, worst, e := level.Best(l)
	must(t, e)
	if r.Intn(5) == 0 {
		return anyRatio(r, 0, level.MaxGain)
	}
	if worst.Num+10 > level.MaxGain { // there is no such bound
		return part(worst.Num/worst.Den+r.Intn(3), 1)
	}
	switch r.Intn(4) {
	case 0:
		return worst
	case 1: // the same, not in lowest terms
		n := min(level.MaxDen/worst.Den, level.MaxGain/max(worst.Num, 1))
		return part(worst.Num*n, worst.Den*n)
	}
	return part(max(0, worst.Num+between(r, -10, 10)), worst.Den)
}

// P6.2: Error returns the error of the definition.
func TestErrorIsExact(t *testing.T) {
	r := newRandom()
	for range 3000 {
		l := mixedCoding(r, between(r, 1, level.MaxCodes))
		line := level.Line{Gain: anyRatio(r, -level.MaxGain, level.MaxGain), Offset: anyRatio(r, -level.MaxOffset, level.MaxOffset)}
		got, e := level.Error(l, line)
		if want := errorWith(l, rat(line.Gain), rat(line.Offset)); e != api.OK || !isLowest(got) || rat(got).Cmp(want) != 0 {
			t.Fatalf("Error(%v, %v) = %v, %d, want %v", l, line, got, e, want)
		}
	}
}

// P6.3 and P6.7: no gain and offset have a smaller error than the best error, and the line that is returned has it.
func TestBestIsExact(t *testing.T) {
	r := newRandom()
	for range 400 {
		l := mixedCoding(r, between(r, 1, 5))
		gain, offset, worst := best(t, l)
		if want := bestOf(l); worst.Cmp(want) != 0 || errorWith(l, gain, offset).Cmp(want) != 0 {
			t.Fatalf("Best(%v): the error of %v, %v is said to be %v; the best error is %v", l, gain, offset, worst, want)
		}
	}
}

// P6.3, P6.4 and P6.7: of codings of any size the line has the best error, which is the greatest number that is proved, and Proof proves it.
func TestBothSidesMeet(t *testing.T) {
	r := newRandom()
	single, three := 0, 0
	for range 400 {
		l := mixedCoding(r, between(r, 1, level.MaxCodes))
		gain, offset, worst := best(t, l)
		if proved := mostProved(l); worst.Cmp(proved) != 0 || errorWith(l, gain, offset).Cmp(proved) != 0 {
			t.Fatalf("Best(%v): the error of %v, %v is said to be %v; what is proved is %v", l, gain, offset, worst, proved)
		}
		proof, e := level.Proof(l)
		must(t, e)
		if len(proof) != 1 && len(proof) != 3 || !slices.IsSorted(proof) || provedBy(l, proof...).Cmp(worst) != 0 {
			t.Fatalf("Proof(%v) = %v does not prove %v", l, proof, worst)
		}
		if len(proof) == 1 {
			single++
		} else {
			three++
		}
		if worst.Denom().Int64() <= level.MaxDen && worst.Num().Int64() <= level.MaxGain {
			must(t, level.Verify(l, proof, part(int(worst.Num().Int64()), int(worst.Denom().Int64()))))
		}
	}
	if single < 50 || three < 50 {
		t.Fatalf("%d proofs have one code, %d have three", single, three)
	}
}

// P6.4 and P6.7: Verify accepts just what is proved, and no line has an error below it.
func TestVerifyIsExact(t *testing.T) {
	r := newRandom()
	right, wrong := 0, 0
	for range 600 {
		l := mixedCoding(r, between(r, 1, level.MaxCodes))
		all := proofsOf(l)
		codes := all[r.Intn(len(all))]
		proved := provedBy(l, codes...)
		for _, bound := range []api.Ratio{anyRatio(r, 0, level.MaxGain), anyBound(t, r, l), nearTo(r, proved)} {
			want := api.OK
			if proved.Cmp(rat(bound)) < 0 {
				want = api.ErrProof
				wrong++
			} else {
				right++
			}
			if e := level.Verify(l, codes, bound); e != want {
				t.Fatalf("Verify(%v, %v, %v) = %d, want %d, since %v is proved", l, codes, bound, e, want, proved)
			}
			if _, _, worst := best(t, l); want == api.OK && worst.Cmp(rat(bound)) < 0 {
				t.Fatalf("%v prove %v for %v, but its best error is %v", codes, bound, l, worst)
			}
		}
	}
	if right < 300 || wrong < 300 {
		t.Fatalf("%d are proofs, %d are not", right, wrong)
	}
}

// nearTo returns a bound that is a number, or a little less or more.
func nearTo(r *rand.Rand, x *big.Rat) api.Ratio {
	num, den := int(x.Num().Int64()), int(x.Denom().Int64())
	n := min(level.MaxDen/den, level.MaxGain/max(num, 1))
	if n == 0 {
		return part(min(num/den+r.Intn(2), level.MaxGain), 1)
	}
	return part(min(max(0, num*n+between(r, -1, 1)), level.MaxGain), den*n)
}

// P6.8: however loud codes were meant, each one is as loud but for the best error.
func TestTruthIsKept(t *testing.T) {
	r := newRandom()
	for range 300 {
		l := mixedCoding(r, between(r, 1, level.MaxCodes))
		gain, offset, worst := best(t, l)
		for _, c := range l {
			truth := big.NewRat(int64(between(r, c.Want.Lo*7, c.Want.Hi*7)), 7)
			off := less(sum(times(gain, whole(c.Set)), offset), truth)
			if off.Abs(off).Cmp(worst) > 0 {
				t.Fatalf("Best(%v): with %v, %v and %v the code %v is off by %v", l, gain, offset, worst, c, off)
			}
		}
	}
}

// P6.8: with Wants within others, or one code less, the best error is not greater.
func TestMoreKnowledge(t *testing.T) {
	r := newRandom()
	for range 300 {
		l := mixedCoding(r, between(r, 2, level.MaxCodes))
		_, _, before := best(t, l)
		closer := slices.Clone(l)
		for i, c := range l {
			if r.Intn(3) == 0 {
				lo := between(r, c.Want.Lo, c.Want.Hi)
				closer[i] = code(c.Set, lo, between(r, lo, c.Want.Hi))
			}
		}
		i := r.Intn(len(l))
		for _, changed := range [][]level.Code{closer, slices.Delete(slices.Clone(l), i, i+1)} {
			if _, _, after := best(t, changed); after.Cmp(before) > 0 {
				t.Fatalf("%v: %v; %v: %v", l, before, changed, after)
			}
		}
	}
}

// tilted returns a coding with a number times Set, and another number, added to each Want, and whether this is one.
func tilted(l []level.Code, gain, offset int) ([]level.Code, bool) {
	var out []level.Code
	for _, c := range l {
		add := gain*c.Set + offset
		out = append(out, code(c.Set, c.Want.Lo+add, c.Want.Hi+add))
	}
	return out, level.Check(out) == api.OK
}

// turned returns a coding with Sets and Wants turned around, and Wants moved up.
func turned(l []level.Code) []level.Code {
	var out []level.Code
	for _, c := range slices.Backward(l) {
		out = append(out, code(-c.Set, level.MaxLoud-c.Want.Hi, level.MaxLoud-c.Want.Lo))
	}
	return out
}

// P6.9: if a number times Set, and another one, is added to the Wants, the best error remains, and gains grow by the first number.
func TestTilted(t *testing.T) {
	r := newRandom()
	done := 0
	for range 4000 {
		n := between(r, 2, 8)
		l := []func(*rand.Rand, int) []level.Code{smallCoding, bentCoding}[r.Intn(2)](r, n)
		gain := between(r, -20, 20)
		changed, ok := tilted(l, gain, between(r, 0, 1000))
		if !ok {
			continue
		}
		done++
		_, _, before := best(t, l)
		_, _, after := best(t, changed)
		if before.Cmp(after) != 0 {
			t.Fatalf("%v: %v; %v: %v", l, before, changed, after)
		}
		bound := part(int(before.Num().Int64())+r.Intn(20), int(before.Denom().Int64()))
		least, most := gains(t, l, bound)
		least2, most2 := gains(t, changed, bound)
		if sum(least, whole(gain)).Cmp(least2) != 0 || sum(most, whole(gain)).Cmp(most2) != 0 {
			t.Fatalf("Gains(%v, %v): %v, %v; Gains(%v): %v, %v", l, bound, least, most, changed, least2, most2)
		}
	}
	if done < 1000 {
		t.Fatalf("only %d codings", done)
	}
}

// P6.9 (G5): if Sets and Wants are turned around, best errors, gains and errors of divisions remain.
func TestTurned(t *testing.T) {
	r := newRandom()
	for range 200 {
		l := mixedCoding(r, between(r, 2, level.MaxCodes))
		changed := turned(l)
		_, _, before := best(t, l)
		_, _, after := best(t, changed)
		if before.Cmp(after) != 0 {
			t.Fatalf("%v: %v; %v: %v", l, before, changed, after)
		}
		bound := anyBound(t, r, l)
		least, most, e := level.Gains(l, bound)
		if least2, most2, e2 := level.Gains(changed, bound); least != least2 || most != most2 || e != e2 {
			t.Fatalf("Gains(%v, %v): %v, %v, %d; Gains(%v): %v, %v, %d", l, bound, least, most, e, changed, least2, most2, e2)
		}
		players := between(r, 1, len(l))
		_, worst, e := level.Divide(l, players)
		if _, worst2, e2 := level.Divide(changed, players); worst != worst2 || e != api.OK || e2 != api.OK {
			t.Fatalf("Divide(%v, %d): %v, %d; Divide(%v): %v, %d", l, players, worst, e, changed, worst2, e2)
		}
	}
}

// P6.5 and P6.10: with each gain from the least to the greatest one an error is at most the bound, and with no other one.
func TestGainsAreExact(t *testing.T) {
	r := newRandom()
	over := 0
	for range 1500 {
		l := mixedCoding(r, between(r, 2, level.MaxCodes))
		bound := anyBound(t, r, l)
		_, _, worst := best(t, l)
		if worst.Cmp(rat(bound)) > 0 {
			over++
			if least, most, e := level.Gains(l, bound); e != api.ErrOver || least != (api.Ratio{}) || most != (api.Ratio{}) {
				t.Fatalf("Gains(%v, %v) = %v, %v, %d, but the best error is %v", l, bound, least, most, e, worst)
			}
			continue
		}
		least, most := gains(t, l, bound)
		if least.Cmp(most) > 0 {
			t.Fatalf("Gains(%v, %v) = %v, %v", l, bound, least, most)
		}
		middle := sum(least, times(less(most, least), big.NewRat(int64(r.Intn(8)), 7)))
		for _, gain := range []*big.Rat{least, most, middle} {
			if e := errorWithGain(l, gain); e.Cmp(rat(bound)) > 0 {
				t.Fatalf("Gains(%v, %v) = %v, %v, but the error with %v is %v", l, bound, least, most, gain, e)
			}
		}
		little := big.NewRat(1, 1<<60)
		for _, gain := range []*big.Rat{less(least, little), sum(most, little), less(least, whole(1)), sum(most, whole(1))} {
			if e := errorWithGain(l, gain); e.Cmp(rat(bound)) <= 0 {
				t.Fatalf("Gains(%v, %v) = %v, %v, but the error with %v is %v", l, bound, least, most, gain, e)
			}
		}
	}
	if over < 100 {
		t.Fatalf("only %d bounds are less than the best error", over)
	}
}

// P6.10: with a greater bound the least gain is not greater, and the greatest one not smaller.
func TestGreaterBound(t *testing.T) {
	r := newRandom()
	for range 500 {
		l := mixedCoding(r, between(r, 2, level.MaxCodes))
		_, worst, e := level.Best(l)
		must(t, e)
		up := worst.Num/worst.Den + 1
		one := part(between(r, up, level.MaxGain), 1)
		two := part(between(r, one.Num, level.MaxGain), 1)
		least, most := gains(t, l, one)
		least2, most2 := gains(t, l, two)
		if least2.Cmp(least) > 0 || most2.Cmp(most) < 0 {
			t.Fatalf("%v: %v to %v with %v, %v to %v with %v", l, least, most, one, least2, most2, two)
		}
	}
}

// P6.6 and P6.11: of all divisions none has a smaller error.
func TestDivideIsExact(t *testing.T) {
	r := newRandom()
	for range 200 {
		l := mixedCoding(r, between(r, 1, 7))
		for players := 1; players <= len(l); players++ {
			var all []*big.Rat
			for _, starts := range divisionsOf(len(l), players) {
				all = append(all, errorOfDivision(l, starts))
			}
			want := slices.MinFunc(all, func(a, b *big.Rat) int { return a.Cmp(b) })
			starts, worst, e := level.Divide(l, players)
			if e != api.OK || !isDivision(starts, len(l), players) || !isLowest(worst) || rat(worst).Cmp(want) != 0 || errorOfDivision(l, starts).Cmp(want) != 0 {
				t.Fatalf("Divide(%v, %d) = %v, %v, %d, want %v", l, players, starts, worst, e, want)
			}
		}
	}
}

// P6.11: with more players the error is not greater; it is that of the division, from the best error to half of the widest Want.
func TestMorePlayers(t *testing.T) {
	r := newRandom()
	for range 12 {
		l := mixedCoding(r, between(r, 1, level.MaxCodes))
		_, _, before := best(t, l)
		for players := 1; players <= len(l); players++ {
			starts, worst, e := level.Divide(l, players)
			must(t, e)
			if !isDivision(starts, len(l), players) || rat(worst).Cmp(before) > 0 || players == 1 && rat(worst).Cmp(before) != 0 || errorOfDivision(l, starts).Cmp(rat(worst)) != 0 {
				t.Fatalf("Divide(%v, %d) = %v, %v; with one player less %v", l, players, starts, worst, before)
			}
			before = rat(worst)
		}
		widest := new(big.Rat)
		for i := range l {
			widest = most(widest, provedBy(l, i))
		}
		if before.Cmp(widest) != 0 {
			t.Fatalf("%v: each code alone has %v, want %v", l, before, widest)
		}
	}
}

// everything returns the results of all calls.
func everything(l []level.Code, line level.Line, codes []int, bound api.Ratio, players int) []any {
	var all []any
	add := func(results ...any) { all = append(all, results...) }
	add(level.Check(l))
	add(level.Error(l, line))
	add(level.Best(l))
	add(level.Proof(l))
	add(level.Verify(l, codes, bound))
	add(level.Gains(l, bound))
	add(level.Divide(l, players))
	return all
}

// R4 and P1: arguments are not changed, results share no memory, and the same arguments give the same results.
func TestNothingIsKept(t *testing.T) {
	r := newRandom()
	for range 100 {
		l := mixedCoding(r, between(r, 3, level.MaxCodes))
		codes, bound := list(0, 1, 2), anyBound(t, r, l)
		call := func() []any { return everything(l, lineOf(1, 2, 3, 4), codes, bound, len(l)/2) }
		l2, codes2 := slices.Clone(l), slices.Clone(codes)
		first, second := call(), call()
		for _, x := range first {
			if some, ok := x.([]int); ok {
				for i := range cap(some) {
					some[:cap(some)][i] = -1
				}
			}
		}
		if !slices.Equal(l, l2) || !slices.Equal(codes, codes2) {
			t.Fatalf("%v %v are changed to %v %v", l2, codes2, l, codes)
		}
		if third := call(); !reflect.DeepEqual(second, third) {
			t.Fatalf("%v and then %v", second, third)
		}
	}
}

// P1 (with R2): all calls end for any arguments, and return zero values with an error.
func TestAnyArguments(t *testing.T) {
	r := newRandom()
	numbers := list(math.MinInt, math.MinInt+1, -10000000000, -1000000, -10001, -10000, -1, 0, 1, 2, 3, 10, 24, 9999, 10000, 10001, 100000, 100001, 1000000, 10000000000, 1<<52, 1<<62, math.MaxInt-1, math.MaxInt)
	pick := func() int { return numbers[r.Intn(len(numbers))] }
	some := func(n int) []int {
		var l []int
		for range n {
			l = append(l, pick())
		}
		return l
	}
	ratio := func() api.Ratio { return part(pick(), pick()) }
	for range 20000 {
		l := codes(some(3 * r.Intn(4))...)
		if r.Intn(2) == 0 {
			l = mixedCoding(r, between(r, 1, 6))
		}
		proof := some(r.Intn(5))
		all := everything(l, level.Line{Gain: ratio(), Offset: ratio()}, proof, ratio(), pick())
		from := 0
		for i, x := range all {
			e, isError := x.(api.Errno)
			if !isError {
				continue
			}
			for _, result := range all[from:i] {
				if v := reflect.ValueOf(result); e != api.OK && !(v.IsZero() || v.Kind() == reflect.Slice && v.Len() == 0) {
					t.Fatalf("%v: a result is %v with the error %d", l, result, e)
				}
			}
			from = i + 1
		}
	}
}
