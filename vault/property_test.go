package vault_test

import (
	"math"
	"math/rand"
	"reflect"
	"slices"
	"testing"

	"pianola/api"
	"pianola/vault"
)

// must fails a test if there is an error.
func must(t *testing.T, e api.Errno) {
	t.Helper()
	if e != api.OK {
		t.Fatalf("error %d", e)
	}
}

// P9.1: values, inverses and shares are those of the reference.
func TestValuesAreExact(t *testing.T) {
	r := newRandom()
	for range 300 {
		l := anyCoefficients(r, between(r, 1, vault.MaxNeed))
		for x := range 251 {
			if n, e := vault.Value(l, x); n != valueOf(l, x) || e != api.OK {
				t.Fatalf("Value of %v at %d: %d, %d, want %d", l, x, n, e, valueOf(l, x))
			}
		}
		keepers := between(r, 1, vault.MaxKeepers)
		var want []vault.Share
		for k := 1; k <= keepers; k++ {
			want = append(want, dealt(l, k)...)
		}
		if got, e := vault.Deal(l, keepers); !slices.Equal(got, want) || e != api.OK {
			t.Fatalf("Deal of %v to %d: %v, %d, want %v", l, keepers, got, e, want)
		}
	}
	for n := 1; n < 251; n++ {
		if m, e := vault.Inverse(n); m != inverseOf(n) || e != api.OK {
			t.Fatalf("Inverse of %d: %d, %d", n, m, e)
		}
	}
}

// P9.2 and P9.3: all polynomials with up to three coefficients show what shares leave possible.
func TestAllPolynomials(t *testing.T) {
	r := newRandom()
	for need, lists := range []int{0, 200, 80, 6} {
		for range lists {
			shares := anyShares(r, need, need+2)
			want := tryAll(need, shares)
			is, e := vault.Agree(need, shares)
			must(t, e)
			if is != (want.coefficients != nil) {
				t.Fatalf("Agree(%d, %v) = %v", need, shares, is)
			}
			l, e := vault.Restore(need, shares)
			if len(shares) >= need && !slices.Equal(l, want.coefficients) {
				t.Fatalf("Restore(%d, %v) = %v, %d, want %v", need, shares, l, e, want.coefficients)
			}
			var secrets []int
			for secret, n := range want.counts {
				if n > 0 {
					secrets = append(secrets, secret)
				}
				if got, e := vault.Count(need, shares, secret); got != n || e != api.OK {
					t.Fatalf("Count(%d, %v, %d) = %d, %d, want %d", need, shares, secret, got, e, n)
				}
			}
			if got, e := vault.Possible(need, shares); !slices.Equal(got, secrets) || e != api.OK {
				t.Fatalf("Possible(%d, %v) = %v, %d, want %v", need, shares, got, e, secrets)
			}
		}
	}
}

// P9.2: Agree, Restore and Secret are those of the reference, which solves equations.
func TestRestoreIsExact(t *testing.T) {
	r := newRandom()
	var codes [24]int
	for range 3000 {
		need := between(r, 1, vault.MaxNeed)
		shares := anyShares(r, need, vault.MaxKeepers)
		want, _, agree := solve(need, shares)
		code, secret := api.OK, 0
		switch {
		case len(shares) < need:
			want, code = nil, api.ErrNone
		case !agree:
			code = api.ErrClash
		default:
			secret = want[0]
		}
		codes[code]++
		if is, e := vault.Agree(need, shares); is != agree || e != api.OK {
			t.Fatalf("Agree(%d, %v) = %v, %d, want %v", need, shares, is, e, agree)
		}
		if l, e := vault.Restore(need, shares); !slices.Equal(l, want) || e != code {
			t.Fatalf("Restore(%d, %v) = %v, %d, want %v, %d", need, shares, l, e, want, code)
		}
		if n, e := vault.Secret(need, shares); n != secret || e != code {
			t.Fatalf("Secret(%d, %v) = %d, %d, want %d, %d", need, shares, n, e, secret, code)
		}
	}
	if codes[api.OK] < 500 || codes[api.ErrNone] < 300 || codes[api.ErrClash] < 300 {
		t.Fatalf("not all cases are there: %v", codes)
	}
}

// P9.3 (G3): Possible and Count are those of the reference, which solves equations.
func TestPossibleIsExact(t *testing.T) {
	r := newRandom()
	for range 60 {
		need := between(r, 1, vault.MaxNeed)
		shares := anyShares(r, need, need+3)
		want := possibleOf(need, shares)
		if got, e := vault.Possible(need, shares); !slices.Equal(got, want) || e != api.OK {
			t.Fatalf("Possible(%d, %v) = %v, %d, want %v", need, shares, got, e, want)
		}
		for secret := range 251 {
			if got, want := count(t, need, shares, secret), countOf(need, shares, secret); got != want {
				t.Fatalf("Count(%d, %v, %d) = %d, want %d", need, shares, secret, got, want)
			}
		}
	}
}

// count returns the number of polynomials with a secret.
func count(t *testing.T, need int, shares []vault.Share, secret int) int {
	t.Helper()
	n, e := vault.Count(need, shares, secret)
	must(t, e)
	return n
}

// P9.3 (G1): with one share more, no secret becomes possible that was impossible; what was possible stays so with some value of it.
func TestMoreIsKnown(t *testing.T) {
	r := newRandom()
	for range 40 {
		need := between(r, 1, vault.MaxNeed)
		shares := anyShares(r, need, need+2)
		keeper := 1
		for slices.ContainsFunc(shares, func(s vault.Share) bool { return s.Keeper == keeper }) {
			keeper++
		}
		before, e := vault.Possible(need, shares)
		must(t, e)
		var after []int
		for value := range 251 {
			l, e := vault.Possible(need, append(slices.Clone(shares), of(keeper, value)...))
			must(t, e)
			after = append(after, l...)
		}
		slices.Sort(after)
		if after = slices.Compact(after); !slices.Equal(before, after) {
			t.Fatalf("%d, %v: %v, and with the share of %d: %v", need, shares, before, keeper, after)
		}
	}
}

// P9.4: Wrong is that of the reference, which leaves out all choices of shares; there is at most one polynomial.
func TestWrongIsExact(t *testing.T) {
	r := newRandom()
	var sizes [4]int
	clashes := 0
	for range 400 {
		need, most := between(r, 1, 4), r.Intn(4)
		if r.Intn(20) == 0 {
			need = vault.MaxNeed
		}
		n := between(r, need+2*most, need+2*most+r.Intn(3))
		shares := dealt(anyCoefficients(r, need), anyKeepers(r, n)...)
		change(r, shares, r.Intn(min(most+2, n)))
		want, code := []int(nil), api.ErrClash
		switch all := wrongOf(need, most, shares); len(all) {
		case 0:
			clashes++
		case 1:
			want, code = all[0], api.OK
			sizes[len(want)]++
		default:
			t.Fatalf("%d, %d, %v: %v", need, most, shares, all)
		}
		if l, e := vault.Wrong(need, most, shares); !slices.Equal(l, want) || e != code {
			t.Fatalf("Wrong(%d, %d, %v) = %v, %d, want %v, %d", need, most, shares, l, e, want, code)
		}
	}
	if clashes < 30 || slices.Min(sizes[:]) < 15 {
		t.Fatalf("%d clashes, and so many wrong shares: %v", clashes, sizes)
	}
}

// P9.4: few values, so that many polynomials come near.
func TestWrongOfFewValues(t *testing.T) {
	r := newRandom()
	found := 0
	for range 600 {
		need, most := between(r, 1, 2), between(r, 1, 3)
		var shares []vault.Share
		for _, k := range anyKeepers(r, need+2*most+r.Intn(2)) {
			shares = append(shares, of(k, r.Intn(2))...)
		}
		want, code := []int(nil), api.ErrClash
		if all := wrongOf(need, most, shares); len(all) > 0 {
			want, code = all[0], api.OK
			found++
		}
		if l, e := vault.Wrong(need, most, shares); !slices.Equal(l, want) || e != code {
			t.Fatalf("Wrong(%d, %d, %v) = %v, %d, want %v, %d", need, most, shares, l, e, want, code)
		}
	}
	if found < 50 || found > 550 {
		t.Fatalf("%d of 600 are found", found)
	}
}

// P9.6 (G6): any shares that were dealt, enough of them and in whatever order, restore coefficients and secret.
func TestRestored(t *testing.T) {
	r := newRandom()
	for range 2000 {
		need := between(r, 1, vault.MaxNeed)
		coefficients := anyCoefficients(r, need)
		shares, e := vault.Deal(coefficients, between(r, need, vault.MaxKeepers))
		must(t, e)
		shares = shuffled(r, shares)[:between(r, need, len(shares))]
		if l, e := vault.Restore(need, shares); !slices.Equal(l, coefficients) || e != api.OK {
			t.Fatalf("%v: Restore of %v: %v, %d", coefficients, shares, l, e)
		}
		if n, e := vault.Secret(need, shares); n != coefficients[0] || e != api.OK {
			t.Fatalf("%v: Secret of %v: %d, %d", coefficients, shares, n, e)
		}
		if is, e := vault.Agree(need, shares); !is || e != api.OK {
			t.Fatalf("%v: Agree of %v: %v, %d", coefficients, shares, is, e)
		}
	}
}

// P9.7 (G3): of fewer shares than are needed every secret is possible, and no one is more so than others.
func TestNothingIsKnown(t *testing.T) {
	r := newRandom()
	for need := 1; need <= vault.MaxNeed; need++ {
		want := 1
		for n := need - 1; n >= 0; n-- {
			shares := dealt(anyCoefficients(r, need), anyKeepers(r, n)...)
			change(r, shares, r.Intn(n+1))
			if l, e := vault.Possible(need, shares); !slices.Equal(l, allNumbers()) || e != api.OK {
				t.Fatalf("Possible(%d, %v) = %v, %d", need, shares, l, e)
			}
			for secret := range 251 {
				if got := count(t, need, shares, secret); got != min(want, api.Never) {
					t.Fatalf("Count(%d, %v, %d) = %d, want %d", need, shares, secret, got, want)
				}
			}
			want *= 251
		}
	}
}

// P9.8 (G7): Wrong returns just the shares that were changed, and the others restore the secret.
func TestChangedShares(t *testing.T) {
	r := newRandom()
	for range 1500 {
		need, most := between(r, 1, vault.MaxNeed), r.Intn(4)
		coefficients := anyCoefficients(r, need)
		shares := dealt(coefficients, anyKeepers(r, between(r, need+2*most, vault.MaxKeepers))...)
		want := change(r, shares, r.Intn(most+1))
		l, e := vault.Wrong(need, most, shares)
		if !slices.Equal(l, want) || e != api.OK {
			t.Fatalf("Wrong(%d, %d, %v) = %v, %d, want %v", need, most, shares, l, e, want)
		}
		rest := slices.DeleteFunc(shares, func(s vault.Share) bool { return slices.Contains(l, s.Keeper) })
		if n, e := vault.Secret(need, rest); n != coefficients[0] || e != api.OK {
			t.Fatalf("Secret(%d, %v) = %d, %d, want %d", need, rest, n, e, coefficients[0])
		}
	}
}

// P9.9: more shares than are needed, which agree, do not agree if one of them is changed in any way.
func TestNoFalseAlarm(t *testing.T) {
	r := newRandom()
	for range 30 {
		need := between(r, 1, vault.MaxNeed)
		n := between(r, need+1, vault.MaxKeepers)
		shares := dealt(anyCoefficients(r, need), anyKeepers(r, n)...)
		i := r.Intn(n)
		right := shares[i].Value
		for value := range 251 {
			shares[i].Value = value
			if is, e := vault.Agree(need, shares); is != (value == right) || e != api.OK {
				t.Fatalf("Agree(%d, %v) = %v, %d, where %d is right at %d", need, shares, is, e, right, i)
			}
		}
	}
}

// P9.10: sums of shares are the shares of sums.
func TestSums(t *testing.T) {
	r := newRandom()
	for range 1000 {
		need := between(r, 1, vault.MaxNeed)
		n := between(r, need, vault.MaxKeepers)
		first, second := anyCoefficients(r, need), anyCoefficients(r, need)
		var sums []int
		for i := range need {
			sums = append(sums, (first[i]+second[i])%251)
		}
		a, e := vault.Deal(first, n)
		must(t, e)
		b, e := vault.Deal(second, n)
		must(t, e)
		want, e := vault.Deal(sums, n)
		must(t, e)
		got, e := vault.Add(a, b)
		if !slices.Equal(got, want) || e != api.OK {
			t.Fatalf("Add(%v, %v) = %v, %d, want %v", a, b, got, e, want)
		}
		if secret, e := vault.Secret(need, got); secret != sums[0] || e != api.OK {
			t.Fatalf("Secret(%d, %v) = %d, %d, want %d", need, got, secret, e, sums[0])
		}
	}
}

// P9.11 (G5): in another order shares show the same.
func TestOrder(t *testing.T) {
	r := newRandom()
	for range 500 {
		need, most := between(r, 1, vault.MaxNeed), r.Intn(4)
		shares := anyShares(r, need, vault.MaxKeepers)
		secret := r.Intn(251)
		call := func(shares []vault.Share) []any { return everything(shares, need, most, secret)[:12] }
		other := shuffled(r, shares)
		if a, b := call(shares), call(other); !reflect.DeepEqual(a, b) {
			t.Fatalf("%d, %d: %v: %v, and %v: %v", need, most, shares, a, other, b)
		}
		added := dealt(anyCoefficients(r, 3), 1, 2, 3, 4, 5, 6, 7, 8, 9, 10, 11, 12, 13, 14, 15, 16, 17, 18, 19, 20)
		with := func(shares []vault.Share) []vault.Share {
			var l []vault.Share
			for _, s := range shares {
				l = append(l, added[s.Keeper-1])
			}
			return l
		}
		a, e := vault.Add(shares, with(shares))
		must(t, e)
		b, e := vault.Add(other, with(other))
		must(t, e)
		for i, s := range other {
			if at := slices.Index(shares, s); a[at] != b[i] {
				t.Fatalf("%v: %v, and %v: %v", shares, a, other, b)
			}
		}
	}
}

// everything returns the results of all calls; those for which the order of shares does not matter are the first 12.
func everything(shares []vault.Share, need, most, secret int) []any {
	var all []any
	add := func(results ...any) { all = append(all, results...) }
	add(vault.Agree(need, shares))
	add(vault.Restore(need, shares))
	add(vault.Secret(need, shares))
	add(vault.Possible(need, shares))
	add(vault.Count(need, shares, secret))
	add(vault.Wrong(need, most, shares))
	add(vault.Add(shares, shares))
	return all
}

// others returns the results of the calls without shares.
func others(coefficients []int, x int) []any {
	var all []any
	add := func(results ...any) { all = append(all, results...) }
	add(vault.Value(coefficients, x))
	add(vault.Inverse(x))
	add(vault.Deal(coefficients, x))
	return all
}

// spoil overwrites what a result keeps in its memory.
func spoil(results []any) {
	for _, result := range results {
		switch l := result.(type) {
		case []int:
			for i := range cap(l) {
				l[:cap(l)][i] = -1
			}
		case []vault.Share:
			for i := range cap(l) {
				l[:cap(l)][i] = vault.Share{Keeper: -1, Value: -1}
			}
		}
	}
}

// R4 and P1: arguments are not changed, results share no memory, and the same arguments give the same results.
func TestNothingIsKept(t *testing.T) {
	r := newRandom()
	for range 300 {
		need, most, secret := between(r, 1, vault.MaxNeed), r.Intn(4), r.Intn(251)
		shares := anyShares(r, need, vault.MaxKeepers)
		coefficients := anyCoefficients(r, need)
		call := func() []any {
			return append(everything(shares, need, most, secret), others(coefficients, 5)...)
		}
		shares2, coefficients2 := slices.Clone(shares), slices.Clone(coefficients)
		first, second := call(), call()
		spoil(first)
		if !slices.Equal(shares, shares2) || !slices.Equal(coefficients, coefficients2) {
			t.Fatalf("%v and %v are changed to %v and %v", shares2, coefficients2, shares, coefficients)
		}
		if third := call(); !reflect.DeepEqual(second, third) {
			t.Fatalf("%v and then %v", second, third)
		}
	}
}

// anyNumber returns a number that is small or extreme.
func anyNumber(r *rand.Rand) int {
	numbers := []int{math.MinInt, math.MinInt + 1, -251, -1, 0, 1, 2, 3, 4, 7, 8, 9, 19, 20, 21, 249, 250, 251, 252, 1 << 32, 1 << 52, 1 << 62, math.MaxInt - 1, math.MaxInt}
	if r.Intn(3) == 0 {
		return numbers[r.Intn(len(numbers))]
	}
	return r.Intn(9)
}

// zeroWithErrors fails a test if a result is not zero with its error.
func zeroWithErrors(t *testing.T, results []any) {
	t.Helper()
	for i := 0; i+1 < len(results); i += 2 {
		v, e := reflect.ValueOf(results[i]), results[i+1].(api.Errno)
		if e != api.OK && !v.IsZero() && !(v.Kind() == reflect.Slice && v.Len() == 0) {
			t.Fatalf("a result is %v with the error %d", results[i], e)
		}
	}
}

// P1 (with R2): all calls end for any arguments, and return zero values with an error.
func TestAnyArguments(t *testing.T) {
	r := newRandom()
	for range 20000 {
		var shares []vault.Share
		var coefficients []int
		for range r.Intn(24) {
			shares = append(shares, of(anyNumber(r), anyNumber(r))...)
		}
		for range r.Intn(11) {
			coefficients = append(coefficients, anyNumber(r))
		}
		if r.Intn(2) == 0 {
			shares = anyShares(r, 2, vault.MaxKeepers)
		}
		zeroWithErrors(t, everything(shares, anyNumber(r), anyNumber(r), anyNumber(r)))
		zeroWithErrors(t, others(coefficients, anyNumber(r)))
	}
}
