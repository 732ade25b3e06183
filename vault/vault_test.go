package vault_test

import (
	"math"
	"slices"
	"testing"

	"pianola/api"
	"pianola/vault"
)

// lists are coefficients with their errors.
var lists = []struct {
	name string
	l    []int
	want api.Errno
}{
	{"example", list(7, 3, 2), api.OK},
	{"one", list(0), api.OK},
	{"eight", list(250, 0, 0, 0, 0, 0, 0, 250), api.OK},
	{"nil", nil, api.ErrEmpty},
	{"none", list(), api.ErrEmpty},
	{"nine", make([]int, 9), api.ErrMany},
	{"nine that are no numbers", slices.Repeat(list(-1), 9), api.ErrMany},
	{"below 0", list(-1), api.ErrRange},
	{"251", list(251), api.ErrRange},
	{"251 at the end", list(1, 2, 3, 4, 5, 6, 7, 251), api.ErrRange},
	{"extremes", list(math.MinInt, math.MaxInt), api.ErrRange},
	{"extreme", list(5, math.MaxInt), api.ErrRange},
}

// P9.1: Value and Deal return the error of the coefficients before their own.
func TestErrorsOfCoefficients(t *testing.T) {
	for _, x := range lists {
		own := x.want
		if own == api.OK {
			own = api.ErrRange
		}
		for _, at := range []int{math.MinInt, -1, 251, math.MaxInt} {
			if n, e := vault.Value(x.l, at); n != 0 || e != own {
				t.Errorf("%s: the value at %d is %d, %d, want %d", x.name, at, n, e, own)
			}
		}
		for _, keepers := range []int{math.MinInt, -1, 0, 21, math.MaxInt} {
			if l, e := vault.Deal(x.l, keepers); len(l) > 0 || e != own {
				t.Errorf("%s: %d keepers: %v, %d, want %d", x.name, keepers, l, e, own)
			}
		}
		for _, n := range []int{1, 20} {
			if l, e := vault.Deal(x.l, n); e != x.want || x.want != api.OK && len(l) > 0 {
				t.Errorf("%s: Deal: %v, %d, want %d", x.name, l, e, x.want)
			}
			if n, e := vault.Value(x.l, n); e != x.want || x.want != api.OK && n != 0 {
				t.Errorf("%s: Value: %d, %d, want %d", x.name, n, e, x.want)
			}
		}
	}
}

// P9.1: Value returns the value at a number.
func TestValue(t *testing.T) {
	for _, x := range []struct {
		l    []int
		x    int
		want int
	}{
		{list(7, 3, 2), 0, 7},
		{list(7, 3, 2), 1, 12},
		{list(7, 3, 2), 2, 21},
		{list(7, 3, 2), 3, 34},
		{list(7, 3, 2), 4, 51},
		{list(7, 3, 2), 250, 6},
		{list(0), 0, 0},
		{list(250), 250, 250},
		{list(0, 250), 250, 1},
		{list(250, 250), 1, 249},
		{list(0, 0, 0, 0, 0, 0, 0, 1), 0, 0},
		{list(0, 0, 0, 0, 0, 0, 0, 1), 2, 128},
		{list(0, 0, 0, 0, 0, 0, 0, 2), 2, 5},
		{list(250, 250, 250, 250, 250, 250, 250, 250), 1, 243},
	} {
		if n, e := vault.Value(x.l, x.x); n != x.want || e != api.OK {
			t.Errorf("Value of %v at %d: %d, %d, want %d", x.l, x.x, n, e, x.want)
		}
	}
}

// P9.1: Inverse returns the inverse, or its errors.
func TestInverse(t *testing.T) {
	for _, x := range []struct {
		n    int
		want int
		e    api.Errno
	}{
		{1, 1, api.OK}, {2, 126, api.OK}, {126, 2, api.OK}, {250, 250, api.OK}, {125, 249, api.OK},
		{0, 0, api.ErrNone}, {-1, 0, api.ErrRange}, {251, 0, api.ErrRange}, {252, 0, api.ErrRange},
		{math.MinInt, 0, api.ErrRange}, {math.MaxInt, 0, api.ErrRange},
	} {
		if n, e := vault.Inverse(x.n); n != x.want || e != x.e {
			t.Errorf("Inverse of %d: %d, %d, want %d, %d", x.n, n, e, x.want, x.e)
		}
	}
}

// P9.1: Deal returns a share for each keeper, in their order.
func TestDeal(t *testing.T) {
	for _, x := range []struct {
		l       []int
		keepers int
		want    []vault.Share
	}{
		{list(7, 3, 2), 3, of(1, 12, 2, 21, 3, 34)},
		{list(7, 3, 2), 1, of(1, 12)},
		{list(7), 2, of(1, 7, 2, 7)},
		{list(250, 1), 3, of(1, 0, 2, 1, 3, 2)},
	} {
		if l, e := vault.Deal(x.l, x.keepers); !slices.Equal(l, x.want) || e != api.OK {
			t.Errorf("Deal of %v to %d: %v, %d, want %v", x.l, x.keepers, l, e, x.want)
		}
	}
	if l, e := vault.Deal(list(3, 1), 20); len(l) != 20 || l[19] != of(20, 23)[0] || e != api.OK {
		t.Errorf("Deal to 20: %v, %d", l, e)
	}
}

// wrongLists are lists of shares of which one is needed, with their errors.
var wrongLists = []struct {
	name   string
	shares []vault.Share
	want   api.Errno
}{
	{"21 shares", make([]vault.Share, 21), api.ErrMany},
	{"21 shares that are right", append(dealt(list(1), 1, 2, 3, 4, 5, 6, 7, 8, 9, 10, 11, 12, 13, 14, 15, 16, 17, 18, 19, 20), of(1, 1)...), api.ErrMany},
	{"keeper 0", of(0, 5), api.ErrRange},
	{"keeper below 0", of(-1, 5), api.ErrRange},
	{"keeper 21", of(21, 5), api.ErrRange},
	{"value below 0", of(5, -1), api.ErrRange},
	{"value 251", of(5, 251), api.ErrRange},
	{"value 251 at the end", of(5, 1, 6, 251), api.ErrRange},
	{"keeper again", of(5, 1, 5, 1), api.ErrTwice},
	{"keeper again, with another value", of(5, 1, 6, 1, 5, 2), api.ErrTwice},
	{"keeper 20 again", of(20, 1, 20, 1), api.ErrTwice},
	{"keeper again, and not a number", of(5, 1, 5, 251), api.ErrRange},
	{"keeper again, and then no keeper", of(5, 1, 5, 1, 0, 1), api.ErrTwice},
	{"no keeper, and then a keeper again", of(5, 1, 0, 1, 5, 1), api.ErrRange},
	{"extreme keepers", of(math.MaxInt, 1, math.MinInt, 1), api.ErrRange},
	{"extreme values", of(1, math.MaxInt, 2, math.MinInt), api.ErrRange},
}

// errorsOf returns the errors of all calls for shares, with other arguments that are wrong, and fails a test if they return something else.
func errorsOf(t *testing.T, name string, need int, shares []vault.Share) []api.Errno {
	t.Helper()
	is, a := vault.Agree(need, shares)
	l, b := vault.Restore(need, shares)
	n, c := vault.Secret(need, shares)
	m, d := vault.Possible(need, shares)
	k, f := vault.Count(need, shares, -1)
	w, g := vault.Wrong(need, 4, shares)
	if is || len(l) > 0 || n != 0 || len(m) > 0 || k != 0 || len(w) > 0 {
		t.Errorf("%s: %v %v %d %v %d %v", name, is, l, n, m, k, w)
	}
	return []api.Errno{a, b, c, d, f, g}
}

// P9.2 to P9.5: the errors of shares, in their order, and before those of other arguments.
func TestErrorsOfShares(t *testing.T) {
	for _, x := range wrongLists {
		if l := errorsOf(t, x.name, 1, x.shares); !slices.Equal(l, slices.Repeat([]api.Errno{x.want}, 6)) {
			t.Errorf("%s: %v, want %d", x.name, l, x.want)
		}
		for _, need := range []int{math.MinInt, -1, 0, 9, math.MaxInt} {
			if l := errorsOf(t, x.name, need, x.shares); !slices.Equal(l, slices.Repeat([]api.Errno{api.ErrRange}, 6)) {
				t.Errorf("%s, need %d: %v", x.name, need, l)
			}
		}
		if l, e := vault.Add(x.shares, of(0, 0)); len(l) > 0 || e != x.want {
			t.Errorf("Add of %s: %v, %d, want %d", x.name, l, e, x.want)
		}
		if l, e := vault.Add(of(1, 1, 3, 3), x.shares); len(l) > 0 || e != x.want {
			t.Errorf("Add with %s: %v, %d, want %d", x.name, l, e, x.want)
		}
	}
}

// P9.2: Agree, Restore and Secret return what shares show together.
func TestRestore(t *testing.T) {
	for _, x := range []struct {
		name   string
		need   int
		shares []vault.Share
		agree  bool
		want   []int
		e      api.Errno
	}{
		{"example", 3, of(1, 12, 4, 51, 2, 21), true, list(7, 3, 2), api.OK},
		{"one more", 3, of(1, 12, 2, 21, 3, 34, 4, 51), true, list(7, 3, 2), api.OK},
		{"one that is wrong", 3, of(1, 12, 2, 21, 3, 34, 4, 52), false, nil, api.ErrClash},
		{"another one that is wrong", 3, of(1, 13, 2, 21, 3, 34, 4, 51), false, nil, api.ErrClash},
		{"a last coefficient that is 0", 4, of(1, 12, 2, 21, 3, 34, 4, 51), true, list(7, 3, 2, 0), api.OK},
		{"coefficients that are all 0", 3, of(7, 0, 2, 0, 9, 0), true, list(0, 0, 0), api.OK},
		{"a first coefficient that is 0", 2, of(1, 250, 2, 249), true, list(0, 250), api.OK},
		{"too few for three", 3, of(1, 12, 2, 21), true, nil, api.ErrNone},
		{"none", 1, nil, true, nil, api.ErrNone},
		{"none for eight", 8, of(), true, nil, api.ErrNone},
		{"seven for eight", 8, dealt(list(1, 2), 1, 2, 3, 4, 5, 6, 7), true, nil, api.ErrNone},
		{"eight for eight", 8, dealt(list(9, 8, 7, 6, 5, 4, 3, 2), 20, 13, 2, 5, 1, 19, 8, 4), true, list(9, 8, 7, 6, 5, 4, 3, 2), api.OK},
		{"any eight for eight", 8, of(1, 250, 2, 0, 3, 250, 4, 0, 5, 250, 6, 0, 7, 250, 8, 0), true, list(123, 77, 116, 173, 216, 245, 100, 204), api.OK},
		{"one for one", 1, of(20, 250), true, list(250), api.OK},
		{"the same for one", 1, of(20, 250, 1, 250), true, list(250), api.OK},
		{"others for one", 1, of(20, 250, 1, 0), false, nil, api.ErrClash},
		{"on a line", 2, of(20, 5, 1, 5, 3, 5), true, list(5, 0), api.OK},
		{"on no line", 2, of(20, 5, 1, 5, 3, 6), false, nil, api.ErrClash},
	} {
		is, e := vault.Agree(x.need, x.shares)
		l, f := vault.Restore(x.need, x.shares)
		n, g := vault.Secret(x.need, x.shares)
		if is != x.agree || !slices.Equal(l, x.want) || e != api.OK || f != x.e || g != x.e {
			t.Errorf("%s: %v %d, %v %d, %d %d, want %v, %v, %d", x.name, is, e, l, f, n, g, x.agree, x.want, x.e)
		}
		if want := append(slices.Clone(x.want), 0)[0]; n != want {
			t.Errorf("%s: the secret is %d, want %d", x.name, n, want)
		}
	}
}

// P9.3: Possible returns all secrets in ascending order.
func TestPossible(t *testing.T) {
	for _, x := range []struct {
		name   string
		need   int
		shares []vault.Share
		want   []int
	}{
		{"two for two", 2, of(1, 12, 2, 21), list(3)},
		{"two for three", 3, of(1, 12, 2, 21), allNumbers()},
		{"none for one", 1, nil, allNumbers()},
		{"none for eight", 8, nil, allNumbers()},
		{"one for one", 1, of(1, 0), list(0)},
		{"more that agree", 3, of(4, 51, 3, 34, 2, 21, 1, 12), list(7)},
		{"more that do not agree", 3, of(4, 51, 3, 34, 2, 21, 1, 13), nil},
		{"seven for eight", 8, of(1, 0, 2, 250, 3, 0, 4, 250, 5, 0, 6, 250, 7, 0), allNumbers()},
	} {
		if l, e := vault.Possible(x.need, x.shares); !slices.Equal(l, x.want) || e != api.OK {
			t.Errorf("%s: %v, %d, want %v", x.name, l, e, x.want)
		}
	}
}

// P9.3: Count returns how many polynomials there are, at most api.Never, or ErrRange.
func TestCount(t *testing.T) {
	for _, x := range []struct {
		name   string
		need   int
		shares []vault.Share
		secret int
		want   int
		e      api.Errno
	}{
		{"one for three", 3, of(1, 12), 7, 251, api.OK},
		{"none for three", 3, nil, 7, 251 * 251, api.OK},
		{"two for three", 3, of(1, 12, 2, 21), 250, 1, api.OK},
		{"three for three", 3, of(1, 12, 2, 21, 3, 34), 7, 1, api.OK},
		{"three for three, another secret", 3, of(1, 12, 2, 21, 3, 34), 6, 0, api.OK},
		{"four for three", 3, of(1, 12, 2, 21, 3, 34, 4, 51), 7, 1, api.OK},
		{"four that do not agree", 3, of(1, 12, 2, 21, 3, 34, 4, 50), 7, 0, api.OK},
		{"none for one", 1, nil, 250, 1, api.OK},
		{"none for seven", 7, nil, 0, 250058907189001, api.OK},
		{"none for eight", 8, nil, 0, api.Never, api.OK},
		{"one for eight", 8, of(20, 250), 0, 250058907189001, api.OK},
		{"the secret 251", 3, nil, 251, 0, api.ErrRange},
		{"the secret -1", 8, nil, -1, 0, api.ErrRange},
		{"an extreme secret", 1, of(1, 1), math.MinInt, 0, api.ErrRange},
		{"another extreme secret", 1, of(1, 1), math.MaxInt, 0, api.ErrRange},
	} {
		if n, e := vault.Count(x.need, x.shares, x.secret); n != x.want || e != x.e {
			t.Errorf("%s: %d, %d, want %d, %d", x.name, n, e, x.want, x.e)
		}
	}
}

// P9.4: Wrong returns the keepers of wrong shares in ascending order, or its errors.
func TestWrong(t *testing.T) {
	for _, x := range []struct {
		name       string
		need, most int
		shares     []vault.Share
		want       []int
		e          api.Errno
	}{
		{"example", 1, 1, of(1, 5, 2, 5, 3, 6), list(3), api.OK},
		{"the first one", 1, 1, of(3, 6, 2, 5, 1, 5), list(3), api.OK},
		{"none is wrong", 1, 1, of(1, 5, 2, 5, 3, 5), nil, api.OK},
		{"none can be wrong", 1, 0, of(1, 5), nil, api.OK},
		{"none can be wrong, but one is", 1, 0, of(1, 5, 2, 5, 3, 6), nil, api.ErrClash},
		{"all differ", 1, 1, of(1, 5, 2, 6, 3, 7), nil, api.ErrClash},
		{"two and two", 1, 1, of(1, 5, 2, 6, 3, 5, 4, 6), nil, api.ErrClash},
		{"three and two", 1, 2, of(9, 6, 1, 5, 2, 6, 3, 5, 4, 5), list(2, 9), api.OK},
		{"fewer than can be wrong", 1, 3, of(9, 6, 1, 5, 2, 5, 3, 5, 4, 5, 5, 5, 6, 5), list(9), api.OK},
		{"three in descending order", 1, 3, of(9, 6, 8, 5, 7, 4, 6, 3, 5, 3, 4, 3, 3, 3), list(7, 8, 9), api.OK},
		{"three of 20 for eight", 8, 3, append(of(20, 1, 19, 1, 18, 1), dealt(list(0, 0, 0, 0, 0, 0, 0, 0), 1, 2, 3, 4, 5, 6, 7, 8, 9, 10, 11, 12, 13, 14, 15, 16, 17)...), list(18, 19, 20), api.OK},
		{"too few for one", 1, 1, of(1, 5, 2, 5), nil, api.ErrNone},
		{"too few for eight", 8, 3, dealt(list(7), 1, 2, 3, 4, 5, 6, 7, 8, 9, 10, 11, 12, 13), nil, api.ErrNone},
		{"too few, and wrong", 1, 1, of(1, 5, 2, 6), nil, api.ErrNone},
		{"no shares", 1, 0, nil, nil, api.ErrNone},
		{"just enough for eight", 8, 3, dealt(list(7), 1, 2, 3, 4, 5, 6, 7, 8, 9, 10, 11, 12, 13, 14), nil, api.OK},
		{"most below 0", 1, -1, of(1, 5), nil, api.ErrRange},
		{"most below 0, and no shares", 1, -1, nil, nil, api.ErrRange},
		{"most 4", 1, 4, dealt(list(7), 1, 2, 3, 4, 5, 6, 7, 8, 9, 10), nil, api.ErrRange},
		{"an extreme", 1, math.MinInt, of(1, 5), nil, api.ErrRange},
		{"another extreme", 1, math.MaxInt, of(1, 5), nil, api.ErrRange},
	} {
		if l, e := vault.Wrong(x.need, x.most, x.shares); !slices.Equal(l, x.want) || e != x.e {
			t.Errorf("%s: %v, %d, want %v, %d", x.name, l, e, x.want, x.e)
		}
	}
}

// P9.5: Add returns the sums of shares, or ErrProof if the keepers are not the same in the same order.
func TestAdd(t *testing.T) {
	for _, x := range []struct {
		name       string
		a, b, want []vault.Share
		e          api.Errno
	}{
		{"example", of(1, 12, 2, 21), of(1, 240, 2, 1), of(1, 1, 2, 22), api.OK},
		{"none", nil, of(), nil, api.OK},
		{"in any order", of(9, 250, 2, 0), of(9, 250, 2, 250), of(9, 249, 2, 250), api.OK},
		{"a sum of 251", of(20, 1), of(20, 250), of(20, 0), api.OK},
		{"another order", of(1, 12, 2, 21), of(2, 21, 1, 12), nil, api.ErrProof},
		{"another keeper", of(1, 12), of(2, 12), nil, api.ErrProof},
		{"more", of(1, 12), of(1, 12, 2, 12), nil, api.ErrProof},
		{"fewer", of(1, 12, 2, 12), of(1, 12), nil, api.ErrProof},
		{"just one list", nil, of(1, 12), nil, api.ErrProof},
		{"just the other list", of(1, 12), nil, nil, api.ErrProof},
		{"another keeper, and an error", of(1, 12), of(2, 251), nil, api.ErrRange},
	} {
		if l, e := vault.Add(x.a, x.b); !slices.Equal(l, x.want) || e != x.e {
			t.Errorf("%s: %v, %d, want %v, %d", x.name, l, e, x.want, x.e)
		}
	}
}
