package level_test

import (
	"math"
	"slices"
	"testing"

	"pianola/api"
	"pianola/level"
)

// codings are codings with their errors.
var codings = []struct {
	name string
	l    []level.Code
	want api.Errno
}{
	{"example", exampleA(), api.OK},
	{"one code", codes(0, 0, 0), api.OK},
	{"as many codes as there can be", points(make([]int, 24)...), api.OK},
	{"greatest numbers", codes(-10000, 0, 10000, 10000, 10000, 10000), api.OK},
	{"nil", nil, api.ErrEmpty},
	{"no code", []level.Code{}, api.ErrEmpty},
	{"too many codes", points(make([]int, 25)...), api.ErrMany},
	{"too many codes, all with errors", make([]level.Code, 25), api.ErrMany},
	{"Set below -MaxSet", codes(-10001, 0, 0), api.ErrRange},
	{"Set above MaxSet", codes(10001, 0, 0), api.ErrRange},
	{"Want below 0", codes(0, -1, 0), api.ErrRange},
	{"Want below 0 as a whole", codes(0, -2, -1), api.ErrRange},
	{"Want above MaxLoud", codes(0, 0, 10001), api.ErrRange},
	{"Want above MaxLoud as a whole", codes(0, 10001, 10001), api.ErrRange},
	{"Want not valid", codes(0, 2, 1), api.ErrRange},
	{"the same Set", codes(1, 0, 0, 1, 0, 0), api.ErrOrder},
	{"a lesser Set", codes(1, 0, 0, 2, 0, 0, 1, 0, 0), api.ErrOrder},
	{"a lesser Set, and Want not valid", codes(1, 0, 0, 0, 2, 1), api.ErrRange},
	{"a lesser Set, and then Want not valid", codes(1, 0, 0, 0, 0, 0, 5, 2, 1), api.ErrOrder},
	{"Want not valid, and then a lesser Set", codes(1, 2, 1, 0, 0, 0), api.ErrRange},
	{"Set below all, after another one", codes(1, 0, 0, -10001, 0, 0), api.ErrRange},
	{"extreme Sets", codes(math.MinInt, 0, 0, math.MaxInt, 0, 0), api.ErrRange},
	{"extreme Want", codes(0, math.MinInt, math.MaxInt), api.ErrRange},
}

// P6.1: Check returns the first error of a coding.
func TestCheck(t *testing.T) {
	for _, x := range codings {
		if e := level.Check(x.l); e != x.want {
			t.Errorf("%s: %d, want %d", x.name, e, x.want)
		}
	}
}

// P6.2 to P6.6: all calls return the error of Check first, whatever the other arguments are, and zero values.
func TestErrorsOfCodings(t *testing.T) {
	for _, x := range codings {
		for _, wrong := range []bool{false, true} {
			if x.want == api.OK {
				continue
			}
			line, proof, bound, players := lineOf(1, 1, 1, 1), list(0), part(0, 1), 1
			if wrong {
				line, proof, bound, players = level.Line{}, nil, part(-1, 0), 0
			}
			var ratios [5]api.Ratio
			var errors [6]api.Errno
			var best level.Line
			var codes, starts []int
			ratios[0], errors[0] = level.Error(x.l, line)
			best, ratios[1], errors[1] = level.Best(x.l)
			codes, errors[2] = level.Proof(x.l)
			errors[3] = level.Verify(x.l, proof, bound)
			ratios[2], ratios[3], errors[4] = level.Gains(x.l, bound)
			starts, ratios[4], errors[5] = level.Divide(x.l, players)
			if errors != [6]api.Errno{x.want, x.want, x.want, x.want, x.want, x.want} {
				t.Errorf("%s: errors %v, want %v", x.name, errors, x.want)
			}
			if ratios != [5]api.Ratio{} || best != (level.Line{}) || len(codes)+len(starts) > 0 {
				t.Errorf("%s: %v %v %v %v with an error", x.name, ratios, best, codes, starts)
			}
		}
	}
}

// P6.2: Error returns the error of a line, in lowest terms.
func TestError(t *testing.T) {
	for _, x := range []struct {
		name string
		l    []level.Code
		line level.Line
		want api.Ratio
	}{
		{"example", exampleA(), lineOf(15, 1, 5, 1), part(10, 1)},
		{"best", exampleA(), lineOf(15, 1, 5, 2), part(15, 2)},
		{"not in lowest terms", exampleA(), lineOf(45, 3, 10, 4), part(15, 2)},
		{"0 with any Den", exampleA(), lineOf(0, 100000, 0, 3), part(40, 1)},
		{"gain below 0", exampleA(), lineOf(-1, 3, 1, 2), part(241, 6)},
		{"offset below 0", codes(4, 3, 5), lineOf(1, 2, -7, 3), part(16, 3)},
		{"all below Wants", codes(1, 3, 5), lineOf(0, 1, 2, 1), part(3, 1)},
		{"all above Wants", codes(1, 3, 5), lineOf(0, 1, 9, 1), part(6, 1)},
		{"nearer to Lo", codes(1, 3, 8), lineOf(0, 1, 4, 1), part(4, 1)},
		{"nearer to Hi", codes(1, 3, 8), lineOf(0, 1, 7, 1), part(4, 1)},
		{"none", points(1, 4, 7), lineOf(3, 1, 1, 1), part(0, 1)},
		{"the first code decides", points(9, 1, 1), lineOf(0, 1, 1, 1), part(8, 1)},
		{"the last code decides", points(1, 1, 9), lineOf(0, 1, 1, 1), part(8, 1)},
		{"Set below 0", codes(-10, 2, 2), lineOf(1, 4, 0, 1), part(9, 2)},
		{"greatest", codes(-10000, 0, 10000), lineOf(1000000, 1, -10000000000, 1), part(20000010000, 1)},
		{"greatest above", codes(10000, 0, 10000), lineOf(1000000, 1, 10000000000, 1), part(20000000000, 1)},
		{"greatest Dens", codes(10000, 0, 10000), lineOf(1000000, 99999, -10000000000, 100000), part(999890000, 99999)},
		{"greatest Dens and numbers", codes(-10000, 0, 10000), lineOf(999999, 100000, -9999999999, 99999), part(2100009, 10)},
	} {
		if got, e := level.Error(x.l, x.line); got != x.want || e != api.OK {
			t.Errorf("%s: %v, %d, want %v", x.name, got, e, x.want)
		}
	}
}

// P6.2: Error returns ErrRange for a line that is not as stated.
func TestErrorOfWrongLines(t *testing.T) {
	for _, right := range []level.Line{
		lineOf(1000000, 100000, 10000000000, 100000), lineOf(-1000000, 1, -10000000000, 1), lineOf(0, 1, 0, 1),
	} {
		if _, e := level.Error(exampleA(), right); e != api.OK {
			t.Errorf("%v: error %d", right, e)
		}
	}
	for _, wrong := range []level.Line{
		{}, lineOf(1000001, 1, 0, 1), lineOf(-1000001, 1, 0, 1), lineOf(1, 0, 0, 1), lineOf(1, -1, 0, 1), lineOf(1, 100001, 0, 1),
		lineOf(1, 1, 10000000001, 1), lineOf(1, 1, -10000000001, 1), lineOf(1, 1, 0, 0), lineOf(1, 1, 0, -1), lineOf(1, 1, 0, 100001),
		lineOf(math.MinInt, 1, 0, 1), lineOf(math.MaxInt, 1, 0, 1), lineOf(0, 1, math.MinInt, 1), lineOf(0, 1, 0, math.MinInt), lineOf(2000002, 2, 0, 1),
	} {
		if got, e := level.Error(exampleA(), wrong); got != (api.Ratio{}) || e != api.ErrRange {
			t.Errorf("%v: %v, %d", wrong, got, e)
		}
	}
}

// bests are codings with their best errors; if a line or a proof is given, there is no other one.
var bests = []struct {
	name  string
	l     []level.Code
	want  api.Ratio
	line  level.Line
	proof []int
}{
	{"A", exampleA(), part(15, 2), lineOf(15, 1, 5, 2), list(0, 1, 2)},
	{"B", exampleB(), part(9, 1), lineOf(15, 1, 3, 1), list(0, 1, 2)},
	{"C", exampleC(), part(15, 1), level.Line{}, list(1)},
	{"one code", codes(5, 1, 4), part(3, 2), level.Line{}, list(0)},
	{"one code of one number", codes(5, 3, 3), part(0, 1), level.Line{}, list(0)},
	{"two codes", codes(3, 10, 14, 7, 20, 22), part(2, 1), level.Line{}, list(0)},
	{"two points", codes(-3, 10, 10, 7, 1, 1), part(0, 1), lineOf(-9, 10, 73, 10), nil},
	{"a line", points(7, 5, 3, 1), part(0, 1), lineOf(-2, 1, 7, 1), nil},
	{"bow upwards", points(0, 2, 0), part(1, 1), lineOf(0, 1, 1, 1), list(0, 1, 2)},
	{"bow downwards", points(2, 0, 2), part(1, 1), lineOf(0, 1, 1, 1), list(0, 1, 2)},
	{"squares", points(0, 1, 4, 9), part(1, 1), lineOf(3, 1, -1, 1), nil},
	{"zigzag", points(9, 1, 8, 2), part(15, 4), lineOf(-1, 2, 21, 4), list(0, 1, 2)},
	{"uneven Sets", codes(0, 0, 0, 3, 5, 6, 7, 1, 2), part(39, 14), lineOf(1, 7, 39, 14), list(0, 1, 2)},
	{"the widest Want alone", codes(0, 5, 6, 1, 3, 9, 2, 6, 7, 3, 5, 7), part(3, 1), level.Line{}, list(1)},
	{"greatest bow", codes(-10000, 0, 0, 0, 10000, 10000, 10000, 0, 0), part(5000, 1), lineOf(0, 1, 5000, 1), list(0, 1, 2)},
	{"thin bow", codes(-10000, 0, 0, -9999, 10000, 10000, 10000, 0, 0), part(5000, 1), lineOf(0, 1, 5000, 1), list(0, 1, 2)},
	{"greatest Den", codes(-10000, 0, 0, -9999, 0, 0, 10000, 9999, 9999), part(9999, 40000), lineOf(9999, 20000, 199970001, 40000), list(0, 1, 2)},
	{"widest Wants", codes(-10000, 0, 10000, 10000, 0, 10000), part(5000, 1), lineOf(0, 1, 5000, 1), nil},
}

// isLine reports whether a line is as the chapter states it, in lowest terms.
func isLine(l level.Line) bool {
	within := func(r api.Ratio, greatest int) bool {
		return r.Num >= -greatest && r.Num <= greatest && r.Den >= 1 && r.Den <= level.MaxDen && isLowest(r)
	}
	return within(l.Gain, level.MaxGain) && within(l.Offset, level.MaxOffset)
}

// isLowest reports whether a fraction is in lowest terms.
func isLowest(r api.Ratio) bool {
	return r.Den > 0 && rat(r).Denom().Int64() == int64(r.Den)
}

// P6.3 (with P6.2): Best returns a line with the best error, and the best error.
func TestBest(t *testing.T) {
	for _, x := range bests {
		line, worst, e := level.Best(x.l)
		if worst != x.want || e != api.OK || !isLine(line) || x.line != (level.Line{}) && line != x.line {
			t.Errorf("%s: %v, %v, %d, want %v, %v", x.name, line, worst, e, x.line, x.want)
		}
		if worst, e := level.Error(x.l, line); worst != x.want || e != api.OK {
			t.Errorf("%s: the error of %v is %v, %d, want %v", x.name, line, worst, e, x.want)
		}
	}
}

// P6.4: Proof returns a proof of the best error, which is accepted, and not for more.
func TestProof(t *testing.T) {
	for _, x := range bests {
		proof, e := level.Proof(x.l)
		if e != api.OK || len(x.proof) > 0 && !slices.Equal(proof, x.proof) {
			t.Errorf("%s: %v, %d, want %v", x.name, proof, e, x.proof)
		}
		if e := level.Verify(x.l, proof, x.want); e != api.OK {
			t.Errorf("%s: %v is not accepted: %d", x.name, proof, e)
		}
		more := part(2*x.want.Num+1, 2*x.want.Den)
		if e := level.Verify(x.l, proof, more); e != api.ErrProof {
			t.Errorf("%s: %v is accepted for more: %d", x.name, proof, e)
		}
	}
}

// P6.4: Verify accepts what proves a bound, and returns its errors in their order.
func TestVerify(t *testing.T) {
	none := part(-1, 0)
	for _, x := range []struct {
		name  string
		l     []level.Code
		codes []int
		bound api.Ratio
		want  api.Errno
	}{
		{"three codes", exampleA(), list(0, 1, 2), part(15, 2), api.OK},
		{"three codes, not in lowest terms", exampleA(), list(0, 1, 2), part(750000, 100000), api.OK},
		{"three codes, a little more", exampleA(), list(0, 1, 2), part(750001, 100000), api.ErrProof},
		{"one code of one number", exampleA(), list(2), part(0, 1), api.OK},
		{"one code of one number, a little more", exampleA(), list(2), part(1, 100000), api.ErrProof},
		{"one code", exampleB(), list(0), part(2, 1), api.OK},
		{"one code, less", exampleB(), list(0), part(1, 1), api.OK},
		{"one code, more", exampleB(), list(0), part(5, 2), api.ErrProof},
		{"another code", exampleB(), list(1), part(1, 1), api.OK},
		{"another code, more", exampleB(), list(1), part(2, 1), api.ErrProof},
		{"wide code in the middle", exampleC(), list(0, 1, 2), part(15, 2), api.OK},
		{"wide code in the middle, more", exampleC(), list(0, 1, 2), part(8, 1), api.ErrProof},
		{"above the outer ones", codes(0, 0, 9, 1, 0, 10, 4, 3, 9), list(0, 1, 2), part(37, 8), api.OK},
		{"above the outer ones, more", codes(0, 0, 9, 1, 0, 10, 4, 3, 9), list(0, 1, 2), part(38, 8), api.ErrProof},
		{"below the outer ones", codes(0, 6, 9, 1, 0, 7, 4, 1, 8), list(0, 1, 2), part(35, 8), api.OK},
		{"below the outer ones, more", codes(0, 6, 9, 1, 0, 7, 4, 1, 8), list(0, 1, 2), part(36, 8), api.ErrProof},
		{"a line proves nothing", points(1, 2, 3), list(0, 1, 2), part(1, 100000), api.ErrProof},
		{"some of many", points(0, 1, 4, 9), list(0, 2, 3), part(1, 1), api.OK},
		{"others of many", points(0, 1, 4, 9), list(1, 2, 3), part(1, 1), api.ErrProof},
		{"no code", exampleA(), nil, none, api.ErrShape},
		{"an empty list", exampleA(), list(), none, api.ErrShape},
		{"two codes", exampleA(), list(0, 9), none, api.ErrShape},
		{"four codes", exampleA(), list(0, 1, 2, 9), none, api.ErrShape},
		{"below 0", exampleA(), list(-1), none, api.ErrNone},
		{"no such code", exampleA(), list(3), none, api.ErrNone},
		{"no such code before an order", exampleA(), list(3, 1, 1), none, api.ErrNone},
		{"an order before no such code", exampleA(), list(1, 1, 3), none, api.ErrOrder},
		{"below 0 after another one", exampleA(), list(1, -1, 2), none, api.ErrNone},
		{"a lesser one", exampleA(), list(0, 2, 1), none, api.ErrOrder},
		{"the same one", exampleA(), list(1, 1, 1), none, api.ErrOrder},
		{"extreme index", exampleA(), list(0, 1, math.MaxInt), none, api.ErrNone},
		{"least index", exampleA(), list(math.MinInt, 1, 2), none, api.ErrNone},
		{"least bound", exampleA(), list(0), part(0, 100000), api.OK},
		{"greatest bound", exampleA(), list(0, 1, 2), part(1000000, 1), api.ErrProof},
		{"bound below 0", exampleA(), list(0, 1, 2), part(-1, 1), api.ErrRange},
		{"bound with a Num above MaxGain", exampleA(), list(0, 1, 2), part(1000001, 1000000), api.ErrRange},
		{"bound with a Num above MaxGain alone", exampleA(), list(0, 1, 2), part(1000001, 1), api.ErrRange},
		{"bound with the Den 0", exampleA(), list(0, 1, 2), part(1, 0), api.ErrRange},
		{"bound with a Den below 0", exampleA(), list(0, 1, 2), part(0, -1), api.ErrRange},
		{"bound with a Den above MaxDen", exampleA(), list(0, 1, 2), part(1, 100001), api.ErrRange},
		{"extreme bound", exampleA(), list(0, 1, 2), part(math.MaxInt, math.MinInt), api.ErrRange},
		{"no bound", exampleA(), list(0, 1, 2), part(0, 0), api.ErrRange},
	} {
		if e := level.Verify(x.l, x.codes, x.bound); e != x.want {
			t.Errorf("%s: %d, want %d", x.name, e, x.want)
		}
	}
}

// P6.5: Gains returns the least and the greatest gain for a bound, or its errors in their order.
func TestGains(t *testing.T) {
	none := api.Ratio{}
	for _, x := range []struct {
		name        string
		l           []level.Code
		bound       api.Ratio
		least, most api.Ratio
		want        api.Errno
	}{
		{"A with the best error", exampleA(), part(15, 2), part(15, 1), part(15, 1), api.OK},
		{"A with the best error, not in lowest terms", exampleA(), part(75, 10), part(15, 1), part(15, 1), api.OK},
		{"A with 8", exampleA(), part(8, 1), part(14, 1), part(16, 1), api.OK},
		{"A with 17/2", exampleA(), part(17, 2), part(13, 1), part(17, 1), api.OK},
		{"A with 7", exampleA(), part(7, 1), none, none, api.ErrOver},
		{"A with a little less", exampleA(), part(749999, 100000), none, none, api.ErrOver},
		{"A with 0", exampleA(), part(0, 1), none, none, api.ErrOver},
		{"C with the best error", exampleC(), part(15, 1), part(-1, 2), part(5, 2), api.OK},
		{"C with less, which one code is against", exampleC(), part(29, 2), none, none, api.ErrOver},
		{"two codes", codes(3, 10, 14, 7, 20, 22), part(2, 1), part(2, 1), part(5, 2), api.OK},
		{"two codes with 3", codes(3, 10, 14, 7, 20, 22), part(3, 1), part(3, 2), part(3, 1), api.OK},
		{"two codes with less, which the first one is against", codes(3, 10, 14, 7, 20, 22), part(1, 1), none, none, api.ErrOver},
		{"two codes with less, which the last one is against", codes(3, 20, 22, 7, 10, 14), part(1, 1), none, none, api.ErrOver},
		{"two points", codes(-3, 10, 10, 7, 1, 1), part(0, 99999), part(-9, 10), part(-9, 10), api.OK},
		{"falling", points(5, 4, 3), part(1, 3), part(-4, 3), part(-2, 3), api.OK},
		{"uneven Sets", codes(0, 0, 0, 3, 5, 6, 7, 1, 2), part(53, 14), part(-11, 21), part(9, 14), api.OK},
		{"greatest bound", points(0, 10000), part(1000000, 1), part(-1990000, 1), part(2010000, 1), api.OK},
		{"greatest numbers", codes(-10000, 0, 0, 10000, 10000, 10000), part(1000000, 99999), part(99799, 199998), part(100199, 199998), api.OK},
		{"one code", codes(5, 1, 4), part(3, 1), none, none, api.ErrGap},
		{"one code with less than the best error", codes(5, 1, 4), part(1, 1), none, none, api.ErrGap},
		{"one code with a wrong bound", codes(5, 1, 4), part(-1, 1), none, none, api.ErrRange},
		{"bound below 0", exampleA(), part(-1, 1), none, none, api.ErrRange},
		{"bound with a Num above MaxGain", exampleA(), part(1000001, 1), none, none, api.ErrRange},
		{"bound with the Den 0", exampleA(), part(1, 0), none, none, api.ErrRange},
		{"bound with a Den below 0", exampleA(), part(1, -1), none, none, api.ErrRange},
		{"bound with a Den above MaxDen", exampleA(), part(1, 100001), none, none, api.ErrRange},
		{"extreme bound", exampleA(), part(math.MinInt, math.MaxInt), none, none, api.ErrRange},
	} {
		least, most, e := level.Gains(x.l, x.bound)
		if least != x.least || most != x.most || e != x.want {
			t.Errorf("%s: %v, %v, %d, want %v, %v, %d", x.name, least, most, e, x.least, x.most, x.want)
		}
	}
}

// P6.6: Divide returns a division with the smallest error, and this error; if starts are given, there is no other one.
func TestDivide(t *testing.T) {
	for _, x := range []struct {
		name    string
		l       []level.Code
		players int
		want    api.Ratio
		starts  []int
		e       api.Errno
	}{
		{"A alone", exampleA(), 1, part(15, 2), list(0), api.OK},
		{"A among 2", exampleA(), 2, part(0, 1), nil, api.OK},
		{"A among 3", exampleA(), 3, part(0, 1), list(0, 1, 2), api.OK},
		{"B alone", exampleB(), 1, part(9, 1), list(0), api.OK},
		{"B among 2", exampleB(), 2, part(2, 1), nil, api.OK},
		{"B among 3", exampleB(), 3, part(2, 1), list(0, 1, 2), api.OK},
		{"one code", codes(5, 1, 4), 1, part(3, 2), list(0), api.OK},
		{"squares alone", points(0, 1, 4, 9), 1, part(1, 1), list(0), api.OK},
		{"squares among 2", points(0, 1, 4, 9), 2, part(0, 1), list(0, 2), api.OK},
		{"a fold", points(0, 1, 2, 9, 8, 7), 2, part(0, 1), list(0, 3), api.OK},
		{"an early fold", points(0, 9, 8, 7, 6), 2, part(0, 1), nil, api.OK},
		{"a late fold", points(6, 7, 8, 9, 0), 2, part(0, 1), nil, api.OK},
		{"two folds", points(0, 1, 2, 2, 2, 1, 0, 0), 3, part(1, 4), nil, api.OK},
		{"two folds among 2", points(0, 2, 4, 4, 4, 2, 0), 2, part(2, 3), nil, api.OK},
		{"only one is best", points(0, 9, 0, 0, 4, 0), 2, part(2, 1), list(0, 2), api.OK},
		{"no player", exampleA(), 0, api.Ratio{}, nil, api.ErrRange},
		{"players below 0", exampleA(), -1, api.Ratio{}, nil, api.ErrRange},
		{"more players than codes", exampleA(), 4, api.Ratio{}, nil, api.ErrRange},
		{"greatest number of players", exampleA(), math.MaxInt, api.Ratio{}, nil, api.ErrRange},
		{"least number of players", exampleA(), math.MinInt, api.Ratio{}, nil, api.ErrRange},
	} {
		starts, worst, e := level.Divide(x.l, x.players)
		if worst != x.want || e != x.e || len(x.starts) > 0 && !slices.Equal(starts, x.starts) {
			t.Errorf("%s: %v, %v, %d, want %v, %v, %d", x.name, starts, worst, e, x.starts, x.want, x.e)
		}
		if e != api.OK && len(starts) > 0 {
			t.Errorf("%s: %v with an error", x.name, starts)
		}
		if e == api.OK && (!isDivision(starts, len(x.l), x.players) || errorOfDivision(x.l, starts).Cmp(rat(x.want)) != 0) {
			t.Errorf("%s: %v has not the error %v", x.name, starts, x.want)
		}
	}
}

// isDivision reports whether a list is a division of so many codes among so many players.
func isDivision(starts []int, codes, players int) bool {
	return len(starts) == players && starts[0] == 0 && starts[players-1] < codes && slices.IsSorted(starts) && len(slices.Compact(slices.Clone(starts))) == players
}
