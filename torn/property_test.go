package torn_test

import (
	"math"
	"math/rand"
	"reflect"
	"slices"
	"testing"

	"pianola/api"
	"pianola/torn"
)

// must fails a test if there is an error.
func must(t *testing.T, e api.Errno) {
	t.Helper()
	if e != api.OK {
		t.Fatalf("error %d", e)
	}
}

// small is the number of rows, and of keys, up to which the reference makes all fillings.
const small = 4

// forSmall calls a function with small sheets of all sorts.
func forSmall(call func(x torn.Sheet)) {
	r := newRandom()
	for range 500 {
		call(anyPossible(r, small))
		call(anySum(r, small))
		call(anySheet(r, small))
	}
}

// P11.2, P11.5 and P11.8 (G3): what small sheets are is what all their fillings show.
func TestAllFillings(t *testing.T) {
	forSmall(func(x torn.Sheet) {
		all := allFillings(x)
		want := api.OK
		switch {
		case total(x.Rows) != total(x.Keys):
			want = api.ErrSum
		case len(all) == 0:
			want = api.ErrClash
		}
		filling, e := torn.Make(x)
		places, f := torn.Certain(x)
		if e != want || f != want {
			t.Fatalf("%v: %d and %d, want %d", x, e, f, want)
		}
		if want != api.OK {
			return
		}
		if !fitsBy(x, filling) || !equal(filling, made(x)) {
			t.Fatalf("Make of %v: %v", x, filling)
		}
		if !equal(places, placesOf(x, all)) {
			t.Fatalf("Certain of %v: %v, want %v", x, places, placesOf(x, all))
		}
	})
}

// P11.3: of all fillings with few holes just those fit that have the counts.
func TestFitsIsExact(t *testing.T) {
	r := newRandom()
	fitting := 0
	for range 2000 {
		rows, keys := between(r, 1, 5), between(r, 1, 5)
		filling := anyFilling(r, rows, keys)
		x := countsOf(anyFilling(r, rows, keys), keys)
		if r.Intn(2) == 0 {
			x = countsOf(filling, keys)
		}
		want := api.ErrSum
		if fitsBy(x, filling) {
			want = api.OK
			fitting++
		}
		if e := torn.Fits(x, filling); e != want {
			t.Fatalf("Fits of %v, %v: %d, want %d", x, filling, e, want)
		}
	}
	if fitting < 500 || fitting > 1500 {
		t.Fatalf("%d fillings fit", fitting)
	}
}

// P11.6 and P11.8: what Count and Share say of small sheets is what all their fillings show, and agrees with what is certain.
func TestShareIsExact(t *testing.T) {
	forSmall(func(x torn.Sheet) {
		all := allFillings(x)
		if n, e := torn.Count(x); n != len(all) || e != api.OK {
			t.Fatalf("Count of %v: %d, %d, want %d", x, n, e, len(all))
		}
		places, e := torn.Certain(x)
		for row := range x.Rows {
			for key := range x.Keys {
				s, f := torn.Share(x, row, key)
				if f != e {
					t.Fatalf("Share of %v: the error %d, want %d", x, f, e)
				}
				if e == api.OK && s != ratioOf(withHole(all, row, key), len(all)) || e != api.OK && s != part(0, 0) {
					t.Fatalf("Share of %v, row %d, key %d: %v", x, row, key, s)
				}
				if e == api.OK && places[row][key] != kindOf(s) {
					t.Fatalf("%v, row %d, key %d: the share %v and the kind %d", x, row, key, s, places[row][key])
				}
			}
		}
	})
}

// kindOf returns what a place with a share is.
func kindOf(s api.Ratio) int {
	switch s {
	case part(0, 1):
		return torn.Empty
	case part(1, 1):
		return torn.Full
	}
	return torn.Open
}

// P11.6: Count of sheets of up to six rows and keys is what the reference counts key by key.
func TestCountIsExact(t *testing.T) {
	r := newRandom()
	for i := range 100 {
		x := anyPossible(r, torn.MaxSmall)
		switch i % 4 {
		case 1:
			x = anySum(r, torn.MaxSmall)
		case 2:
			x = anySheet(r, torn.MaxSmall)
		}
		if n, e := torn.Count(x); n != byKeys(x.Keys, x.Rows) || e != api.OK {
			t.Fatalf("Count of %v: %d, %d, want %d", x, n, e, byKeys(x.Keys, x.Rows))
		}
	}
}

// P11.4: Clash finds a clash just if some rows are one, and Verify accepts just those that are.
func TestClashIsExact(t *testing.T) {
	found := 0
	forSmall(func(x torn.Sheet) {
		rows, e := torn.Clash(x)
		switch {
		case !someClash(x):
			if len(rows) > 0 || e != api.ErrNone {
				t.Fatalf("Clash of %v: %v, %d", x, rows, e)
			}
		case e != api.OK || !isClash(x, rows) || torn.Verify(x, rows) != api.OK:
			t.Fatalf("Clash of %v: %v, %d", x, rows, e)
		default:
			found++
		}
		for size := 1; size <= len(x.Rows); size++ {
			for _, l := range subsets(0, len(x.Rows), size) {
				want := api.ErrProof
				if isClash(x, l) {
					want = api.OK
				}
				if e := torn.Verify(x, l); e != want {
					t.Fatalf("Verify of %v, %v: %d, want %d", x, l, e, want)
				}
			}
		}
	})
	if found < 100 {
		t.Fatalf("just %d clashes", found)
	}
}

// P11.7 (G4): a sheet with the right sum is either possible or has a clash, and one with another sum is not possible. The reference says by a flow which one it is.
func TestEither(t *testing.T) {
	r := newRandom()
	possible, clashes := 0, 0
	for i := range 1500 {
		size := list(3, 6, 20)[i%3]
		x := anySum(r, size)
		if r.Intn(3) == 0 {
			x = anySheet(r, size)
		}
		filling, e := torn.Make(x)
		rows, f := torn.Clash(x)
		if (e == api.OK) != isPossible(x, nowhere) || (e == api.ErrSum) != (total(x.Rows) != total(x.Keys)) {
			t.Fatalf("Make of %v: %v, %d", x, filling, e)
		}
		if (f == api.OK) == haveRoom(x, nowhere) || f == api.OK && torn.Verify(x, rows) != api.OK {
			t.Fatalf("Clash of %v: %v, %d", x, rows, f)
		}
		switch {
		case e == api.OK && f == api.ErrNone:
			must(t, torn.Fits(x, filling))
			if !equal(filling, made(x)) {
				t.Fatalf("Make of %v: %v, want %v", x, filling, made(x))
			}
			possible++
		case e == api.ErrClash && f == api.OK:
			clashes++
		case e != api.ErrSum:
			t.Fatalf("%v: Make %d, Clash %v, %d", x, e, rows, f)
		}
	}
	if min(possible, clashes) < 200 {
		t.Fatalf("%d are possible, %d have clashes", possible, clashes)
	}
}

// P11.7: rows that are accepted as a clash show that no filling has these counts.
func TestNoClashOfAFilling(t *testing.T) {
	r := newRandom()
	for range 1000 {
		x := anyPossible(r, torn.MaxSide)
		var rows []int
		for row := range x.Rows {
			if r.Intn(2) == 0 {
				rows = append(rows, row)
			}
		}
		if e := torn.Verify(x, rows); e == api.OK {
			t.Fatalf("%v is possible, but %v is a clash", x, rows)
		}
	}
}

// P11.5 and P11.8 (G3): what places of large sheets are is what the reference says by flows, once with a hole there and once without.
func TestCertainIsExact(t *testing.T) {
	r := newRandom()
	var kinds [3]int
	for range 60 {
		x := anyPossible(r, torn.MaxSide)
		places, e := torn.Certain(x)
		must(t, e)
		for range 40 {
			row, key := r.Intn(len(x.Rows)), r.Intn(len(x.Keys))
			kind := places[row][key]
			if want := placeBy(x, row, key); kind != want {
				t.Fatalf("%v, row %d, key %d: %d, want %d", x, row, key, kind, want)
			}
			kinds[kind]++
		}
	}
	if min(kinds[0], kinds[1], kinds[2]) < 100 {
		t.Fatalf("places of the kinds: %v", kinds)
	}
}

// P11.9 (G1): the counts of any filling are possible, without a clash, and the filling agrees with what is certain.
func TestTruth(t *testing.T) {
	r := newRandom()
	for range 500 {
		rows, keys := between(r, 1, 20), between(r, 1, 20)
		truth := anyFilling(r, rows, keys)
		x := countsOf(truth, keys)
		filling, e := torn.Make(x)
		must(t, e)
		must(t, torn.Fits(x, filling))
		must(t, torn.Fits(x, truth))
		if l, e := torn.Clash(x); len(l) > 0 || e != api.ErrNone {
			t.Fatalf("%v has the clash %v, %d", x, l, e)
		}
		places, e := torn.Certain(x)
		must(t, e)
		for row := range rows {
			for key := range keys {
				if kind := places[row][key]; kind == torn.Full && !hasHole(truth, row, key) || kind == torn.Empty && hasHole(truth, row, key) {
					t.Fatalf("%v, row %d, key %d: %d, but %v", x, row, key, kind, truth)
				}
			}
		}
	}
}

// P11.10 (G2): the shares of a row are together its number, and those of a key its own.
func TestShares(t *testing.T) {
	r := newRandom()
	for range 60 {
		x := anyPossible(r, torn.MaxSmall)
		n, e := torn.Count(x)
		must(t, e)
		rows, keys := make([]int, len(x.Rows)), make([]int, len(x.Keys))
		for row := range rows {
			for key := range keys {
				s, e := torn.Share(x, row, key)
				must(t, e)
				if n%s.Den != 0 || s != ratioOf(s.Num, s.Den) {
					t.Fatalf("%v: the share %v of %d", x, s, n)
				}
				rows[row] += s.Num * (n / s.Den)
				keys[key] += s.Num * (n / s.Den)
			}
		}
		times := func(l []int) []int {
			var out []int
			for _, one := range l {
				out = append(out, n*one)
			}
			return out
		}
		if !slices.Equal(rows, times(x.Rows)) || !slices.Equal(keys, times(x.Keys)) {
			t.Fatalf("%v: shares of %d: %v in rows, %v at keys", x, n, rows, keys)
		}
	}
}

// P11.11 (G5): if rows and keys are exchanged, the sheet is possible just as before, and what is certain is turned.
func TestTurned(t *testing.T) {
	r := newRandom()
	for i := range 300 {
		x := anySum(r, list(4, 20)[i%2])
		y := sheet(x.Keys, x.Rows)
		_, e := torn.Make(x)
		_, f := torn.Make(y)
		l, g := torn.Certain(x)
		m, h := torn.Certain(y)
		_, c := torn.Clash(x)
		_, d := torn.Clash(y)
		if e != f || g != h || e != g || c != d {
			t.Fatalf("%v: %d %d %d %d %d %d", x, e, f, g, h, c, d)
		}
		if e == api.OK && !equal(m, turned(l)) {
			t.Fatalf("Certain of %v: %v, turned %v", x, l, m)
		}
	}
}

// P11.11 (G5): rows and keys in another order, or exchanged, have as many fillings.
func TestCountInAnotherOrder(t *testing.T) {
	r := newRandom()
	for range 100 {
		x := anySum(r, torn.MaxSmall)
		n, e := torn.Count(x)
		must(t, e)
		for _, y := range []torn.Sheet{sheet(x.Keys, x.Rows), shuffled(r, x)} {
			if m, e := torn.Count(y); m != n || e != api.OK {
				t.Fatalf("Count of %v: %d, of %v: %d, %d", x, n, y, m, e)
			}
		}
	}
}

// P11.11 (G5): if rows are in another order, so are their lists of Certain.
func TestCertainInAnotherOrder(t *testing.T) {
	r := newRandom()
	for range 300 {
		x := anyPossible(r, torn.MaxSide)
		order := r.Perm(len(x.Rows))
		l, e := torn.Certain(x)
		must(t, e)
		m, e := torn.Certain(sheet(permuted(x.Rows, order), x.Keys))
		must(t, e)
		if !equal(m, permuted(l, order)) {
			t.Fatalf("Certain of %v: %v, in the order %v: %v", x, l, order, m)
		}
	}
}

// moved returns a filling with a hole moved from one key to another one in a row.
func moved(filling [][]int, row, from, to int) [][]int {
	filling = copied(filling)
	filling[row][slices.Index(filling[row], from)] = to
	slices.Sort(filling[row])
	return filling
}

// P11.12: a switch of two holes leads to a filling that fits, and its four places are open.
func TestSwitches(t *testing.T) {
	r := newRandom()
	switches := 0
	for range 60 {
		rows, keys := between(r, 2, 20), between(r, 2, 20)
		filling := anyFilling(r, rows, keys)
		x := countsOf(filling, keys)
		places, e := torn.Certain(x)
		must(t, e)
		for range 500 {
			i, j, k, l := r.Intn(rows), r.Intn(rows), r.Intn(keys), r.Intn(keys)
			if !hasHole(filling, i, k) || !hasHole(filling, j, l) || hasHole(filling, i, l) || hasHole(filling, j, k) {
				continue
			}
			switches++
			must(t, torn.Fits(x, moved(moved(filling, i, k, l), j, l, k)))
			if min(places[i][k], places[j][l], places[i][l], places[j][k]) != torn.Open {
				t.Fatalf("%v: the rows %d and %d and the keys %d and %d can be switched: %v", x, i, j, k, l, places)
			}
		}
	}
	if switches < 200 {
		t.Fatalf("just %d switches", switches)
	}
}

// everything returns the results of all calls with a sheet, those of each call as one list.
func everything(x torn.Sheet, filling [][]int, rows []int, row, key int) [][]any {
	var all [][]any
	add := func(results ...any) { all = append(all, results) }
	add(torn.Check(x))
	add(torn.Make(x))
	add(torn.Fits(x, filling))
	add(torn.Clash(x))
	add(torn.Verify(x, rows))
	add(torn.Certain(x))
	add(torn.Count(x))
	add(torn.Share(x, row, key))
	return all
}

// R3: nil lists and empty ones are equivalent.
func TestNilIsEmpty(t *testing.T) {
	for _, x := range []torn.Sheet{{}, sheet(list(0), nil), sheet(nil, list(0)), sheetX(), sheet(list(0, 0), list(0))} {
		y := x
		if x.Rows == nil {
			y.Rows = list()
		}
		if x.Keys == nil {
			y.Keys = list()
		}
		a, b := everything(x, nil, nil, 0, 0), everything(y, lists(), list(), 0, 0)
		if !reflect.DeepEqual(a, b) {
			t.Errorf("%v for nil lists, %v for empty ones", a, b)
		}
		if e, f := torn.Fits(x, lists(nil, nil)), torn.Fits(y, lists(list(), list())); e != f {
			t.Errorf("Fits of %v: %d and %d", x, e, f)
		}
	}
}

// spoil overwrites what a result keeps in its memory.
func spoil(calls [][]any) {
	for _, results := range calls {
		for _, result := range results {
			switch l := result.(type) {
			case []int:
				spoilList(l)
			case [][]int:
				for _, one := range l {
					spoilList(one)
				}
				for i := range cap(l) {
					l[:cap(l)][i] = list(-1)
				}
			}
		}
	}
}

// spoilList overwrites the memory of a list.
func spoilList(l []int) {
	for i := range cap(l) {
		l[:cap(l)][i] = -1
	}
}

// R4 and P1: arguments are not changed, nor is what lies behind them in their memory; results share no memory, and the same arguments give the same results.
func TestNothingIsKept(t *testing.T) {
	r := newRandom()
	for range 300 {
		x := anySum(r, 6)
		filling := anyFilling(r, len(x.Rows)+1, len(x.Keys))
		rows := subsets(0, len(x.Rows)+1, len(x.Rows)+1)[0]
		spare := sheet(append(slices.Clone(x.Rows), 7), append(slices.Clone(x.Keys), 8))
		x = sheet(spare.Rows[:len(x.Rows)], spare.Keys[:len(x.Keys)])
		spare2, filling2, rows2 := sheet(slices.Clone(spare.Rows), slices.Clone(spare.Keys)), copied(filling), slices.Clone(rows)
		call := func() [][]any {
			return everything(x, filling[:len(x.Rows)], rows[:len(x.Rows)], 0, 0)
		}
		first, second := call(), call()
		spoil(first)
		if !reflect.DeepEqual(spare, spare2) || !equal(filling, filling2) || !slices.Equal(rows, rows2) {
			t.Fatalf("arguments are changed: %v, %v, %v", spare, filling, rows)
		}
		if third := call(); !reflect.DeepEqual(second, third) {
			t.Fatalf("%v and then %v", second, third)
		}
	}
}

// R4: the lists of one result share no memory.
func TestListsShareNothing(t *testing.T) {
	for _, x := range []torn.Sheet{sheetX(), sheetZ(), sheet(same(10, 20), same(10, 20))} {
		for _, make := range []func(torn.Sheet) ([][]int, api.Errno){torn.Make, torn.Certain} {
			l, e := make(x)
			must(t, e)
			want, _ := make(x)
			for i := range l {
				spoilList(l[i])
				if !equal(l[i+1:], want[i+1:]) {
					t.Fatalf("the lists of %v share memory", x)
				}
			}
		}
	}
}

// anyNumber returns a number that is small or extreme.
func anyNumber(r *rand.Rand) int {
	numbers := list(math.MinInt, math.MinInt+1, -1<<32, -21, -1, 19, 20, 21, 32, 64, 1<<32, 1<<62, math.MaxInt-1, math.MaxInt)
	if r.Intn(12) == 0 {
		return numbers[r.Intn(len(numbers))]
	}
	return between(r, 0, 3)
}

// anyNumbers returns some numbers, or too many.
func anyNumbers(r *rand.Rand) []int {
	n := r.Intn(5)
	if r.Intn(8) == 0 {
		n = between(r, 6, 23)
	}
	var l []int
	for range n {
		l = append(l, anyNumber(r))
	}
	return l
}

// P1 (with R2): all calls end for any arguments, and return zero values with an error.
func TestAnyArguments(t *testing.T) {
	r := newRandom()
	right := 0
	for range 20000 {
		x := sheet(anyNumbers(r), anyNumbers(r))
		var filling [][]int
		for range len(x.Rows) + r.Intn(6)/5 {
			filling = append(filling, anyNumbers(r))
		}
		for _, results := range everything(x, filling, anyNumbers(r), anyNumber(r), anyNumber(r)) {
			last := len(results) - 1
			if results[last].(api.Errno) == api.OK {
				right++
				continue
			}
			for _, result := range results[:last] {
				if v := reflect.ValueOf(result); !v.IsZero() && !(v.Kind() == reflect.Slice && v.Len() == 0) {
					t.Fatalf("a result is %v with the error %d", result, results[last])
				}
			}
		}
	}
	if right < 2000 {
		t.Fatalf("just %d calls are right", right)
	}
}
