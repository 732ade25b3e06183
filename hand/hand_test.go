package hand_test

import (
	"math"
	"slices"
	"testing"

	"pianola/api"
	"pianola/hand"
)

// samples are lists of delays with their errors.
var samples = []struct {
	name string
	l    []int
	want api.Errno
}{
	{"one", list(0), api.OK},
	{"the bounds", list(-100000, 100000), api.OK},
	{"sixteen", make([]int, 16), api.OK},
	{"nil", nil, api.ErrEmpty},
	{"none", list(), api.ErrEmpty},
	{"seventeen", make([]int, 17), api.ErrMany},
	{"seventeen that are out of range", slices.Repeat(list(100001), 17), api.ErrMany},
	{"above the bound", list(100001), api.ErrRange},
	{"below the bound", list(-100001), api.ErrRange},
	{"out of range at the end", append(make([]int, 15), -100001), api.ErrRange},
	{"the least number", list(0, math.MinInt), api.ErrRange},
	{"the greatest number", list(math.MaxInt, 0), api.ErrRange},
}

// P10.1: Check and Ranks return the error of a list.
func TestCheck(t *testing.T) {
	for _, x := range samples {
		if e := hand.Check(x.l); e != x.want {
			t.Errorf("%s: Check: %d, want %d", x.name, e, x.want)
		}
		if l, e := hand.Ranks(x.l); e != x.want || e != api.OK && len(l) > 0 {
			t.Errorf("%s: Ranks: %v, %d, want %d", x.name, l, e, x.want)
		}
	}
}

// P10.1: Ranks returns the rank of each element.
func TestRanks(t *testing.T) {
	for _, x := range []struct{ l, want []int }{
		{list(5, 3, 5, 9), list(5, 2, 5, 8)},
		{list(7), list(2)},
		{list(1, 2, 3), list(2, 4, 6)},
		{list(3, 2, 1), list(6, 4, 2)},
		{list(1, 1, 1), list(4, 4, 4)},
		{list(-100000, 100000, 0), list(2, 6, 4)},
		{list(0, -1, -1), list(6, 3, 3)},
		{make([]int, 16), slices.Repeat(list(17), 16)},
	} {
		if l, e := hand.Ranks(x.l); !slices.Equal(l, x.want) || e != api.OK {
			t.Errorf("Ranks of %v: %v, %d, want %v", x.l, l, e, x.want)
		}
	}
}

// errorsOf returns the errors of all calls with two samples, and fails a test if they return something else.
func errorsOf(t *testing.T, name string, a, b []int) []api.Errno {
	t.Helper()
	beats, d := hand.Beats(a, b)
	few, many, all, e := hand.Tails(a, b)
	chance, f := hand.Chance(a, b)
	sum, paired, g := hand.Paired(a, b)
	if beats != 0 || few != 0 || many != 0 || all != 0 || chance != part(0, 0) || sum != 0 || paired != part(0, 0) {
		t.Errorf("%s: %d, %d %d %d, %v, %d %v", name, beats, few, many, all, chance, sum, paired)
	}
	return []api.Errno{d, e, f, g}
}

// P10.2 to P10.5: the error of the first sample, and then that of the second one.
func TestErrorsOfSamples(t *testing.T) {
	for _, x := range samples {
		if x.want == api.OK {
			continue
		}
		for _, y := range samples {
			if l := errorsOf(t, x.name, x.l, y.l); !slices.Equal(l, slices.Repeat([]api.Errno{x.want}, 4)) {
				t.Errorf("%s and %s: %v, want %d", x.name, y.name, l, x.want)
			}
			if y.want != api.OK {
				continue
			}
			if l := errorsOf(t, x.name, y.l, x.l); !slices.Equal(l, slices.Repeat([]api.Errno{x.want}, 4)) {
				t.Errorf("%s and %s: %v, want %d", y.name, x.name, l, x.want)
			}
		}
	}
}

// upTo returns the numbers from a least one on.
func upTo(least, n int) []int {
	var l []int
	for i := range n {
		l = append(l, least+i)
	}
	return l
}

// P10.2 to P10.4: Beats, Tails and Chance of two samples.
func TestTwoSamples(t *testing.T) {
	for _, x := range []struct {
		name           string
		a, b           []int
		beats          int
		few, many, all int
		chance         api.Ratio
	}{
		{"example", list(1, 2), list(3, 4), 8, 6, 1, 6, part(1, 3)},
		{"exchanged", list(3, 4), list(1, 2), 0, 1, 6, 6, part(1, 3)},
		{"nearer", list(1, 3), list(2, 4), 6, 5, 2, 6, part(2, 3)},
		{"one is equal", list(1, 3), list(2, 3), 5, 5, 3, 6, part(1, 1)},
		{"all are equal", list(1, 1), list(1), 2, 3, 3, 3, part(1, 1)},
		{"one and one that is greater", list(-5), list(5), 2, 2, 1, 2, part(1, 1)},
		{"one and one that is smaller", list(5), list(-5), 0, 1, 2, 2, part(1, 1)},
		{"just the middle", list(2, 2), list(1, 3), 4, 4, 4, 6, part(1, 1)},
		{"one of four", list(0), list(1, 2, 3), 6, 4, 1, 4, part(1, 2)},
		{"no choice is as far on the other side", list(1, 1), list(2), 4, 3, 1, 3, part(1, 3)},
		{"the bounds", list(-100000, -100000, -100000), list(100000), 6, 4, 1, 4, part(1, 4)},
		{"three and three", list(1, 2, 3), list(4, 5, 6), 18, 20, 1, 20, part(1, 10)},
		{"sixteen and one", upTo(0, 16), list(16), 32, 17, 1, 17, part(2, 17)},
		{"one and sixteen", list(16), upTo(0, 16), 0, 1, 17, 17, part(2, 17)},
		{"sixteen and sixteen", upTo(0, 16), upTo(16, 16), 512, 601080390, 1, 601080390, part(1, 300540195)},
		{"sixteen that are equal", make([]int, 16), make([]int, 16), 256, 601080390, 601080390, 601080390, part(1, 1)},
		{"sixteen of two values", make([]int, 16), slices.Repeat(list(1), 16), 512, 601080390, 1, 601080390, part(1, 300540195)},
	} {
		if n, e := hand.Beats(x.a, x.b); n != x.beats || e != api.OK {
			t.Errorf("%s: %d beats, %d, want %d", x.name, n, e, x.beats)
		}
		if few, many, all, e := hand.Tails(x.a, x.b); few != x.few || many != x.many || all != x.all || e != api.OK {
			t.Errorf("%s: the tails %d, %d, %d, %d, want %d, %d, %d", x.name, few, many, all, e, x.few, x.many, x.all)
		}
		if c, e := hand.Chance(x.a, x.b); c != x.chance || e != api.OK {
			t.Errorf("%s: the chance %v, %d, want %v", x.name, c, e, x.chance)
		}
	}
}

// P10.5: Paired returns the signed sum and the paired chance, or ErrShape.
func TestPaired(t *testing.T) {
	for _, x := range []struct {
		name   string
		a, b   []int
		sum    int
		chance api.Ratio
		e      api.Errno
	}{
		{"example", list(1, 2, 3), list(4, 4, 4), 12, part(1, 4), api.OK},
		{"exchanged", list(4, 4, 4), list(1, 2, 3), -12, part(1, 4), api.OK},
		{"another example", list(1, 5), list(3, 4), 2, part(1, 1), api.OK},
		{"one", list(1), list(2), 2, part(1, 1), api.OK},
		{"one that is equal", list(1), list(1), 0, part(1, 1), api.OK},
		{"one of two is equal", list(1, 7), list(1, 8), 2, part(1, 1), api.OK},
		{"two of five are equal", list(1, 2, 7, 8, 9), list(1, 3, 9, 8, 20), 12, part(1, 4), api.OK},
		{"equal differences", list(1, 2, 3), list(2, 1, 2), -4, part(1, 1), api.OK},
		{"differences above the bound", list(-100000, 0, 0), list(100000, 100000, -3), 8, part(1, 2), api.OK},
		{"nearly all", list(0, 0, 0, 0), list(-1, 2, 3, 4), 16, part(1, 4), api.OK},
		{"sixteen", make([]int, 16), slices.Repeat(list(1), 16), 272, part(1, 32768), api.OK},
		{"sixteen that differ", make([]int, 16), upTo(1, 16), 272, part(1, 32768), api.OK},
		{"sixteen that are equal", make([]int, 16), make([]int, 16), 0, part(1, 1), api.OK},
		{"one more", list(1, 2), list(1), 0, part(0, 0), api.ErrShape},
		{"one fewer", list(1), list(1, 2), 0, part(0, 0), api.ErrShape},
	} {
		if sum, c, e := hand.Paired(x.a, x.b); sum != x.sum || c != x.chance || e != x.e {
			t.Errorf("%s: %d, %v, %d, want %d, %v, %d", x.name, sum, c, e, x.sum, x.chance, x.e)
		}
	}
}

// P10.6: Within returns the span of the beats, or its errors in their order.
func TestWithin(t *testing.T) {
	for _, x := range []struct {
		name string
		a, b []api.Span
		want api.Span
		e    api.Errno
	}{
		{"example", spans(0, 3), spans(2, 2), spans(0, 2)[0], api.OK},
		{"nothing is open", spans(0, 0), spans(1, 1), spans(2, 2)[0], api.OK},
		{"they touch", spans(0, 2), spans(2, 4), spans(1, 2)[0], api.OK},
		{"they touch on the other side", spans(2, 4), spans(0, 2), spans(0, 1)[0], api.OK},
		{"two and one", spans(0, 5, 3, 3), spans(3, 4), spans(1, 4)[0], api.OK},
		{"the bounds", spans(-100000, 100000), spans(-100000, 100000), spans(0, 2)[0], api.OK},
		{"sixteen", make([]api.Span, 16), make([]api.Span, 16), spans(256, 256)[0], api.OK},
		{"none", nil, nil, api.Span{}, api.ErrEmpty},
		{"none, and seventeen", nil, make([]api.Span, 17), api.Span{}, api.ErrEmpty},
		{"seventeen, and none", make([]api.Span, 17), spans(), api.Span{}, api.ErrEmpty},
		{"one that is not valid, and none", spans(2, 1), nil, api.Span{}, api.ErrEmpty},
		{"seventeen, and one that is not valid", make([]api.Span, 17), spans(2, 1), api.Span{}, api.ErrMany},
		{"one that is not valid, and seventeen", spans(2, 1), make([]api.Span, 17), api.Span{}, api.ErrMany},
		{"one that is not valid", spans(0, 0, 2, 1), spans(0, 0), api.Span{}, api.ErrRange},
		{"the other one is not valid", spans(0, 0), spans(0, 0, 0, 0, 2, 1), api.Span{}, api.ErrRange},
		{"above the bound", spans(0, 100001), spans(0, 0), api.Span{}, api.ErrRange},
		{"below the bound", spans(-100001, 0), spans(0, 0), api.Span{}, api.ErrRange},
		{"the other one is above the bound", spans(0, 0), spans(0, 100001), api.Span{}, api.ErrRange},
		{"the other one is below the bound", spans(0, 0), spans(-100001, 0), api.Span{}, api.ErrRange},
		{"extremes", spans(math.MinInt, math.MaxInt), spans(0, 0), api.Span{}, api.ErrRange},
		{"all above the bound", spans(math.MaxInt, math.MaxInt), spans(0, 0), api.Span{}, api.ErrRange},
	} {
		if s, e := hand.Within(x.a, x.b); s != x.want || e != x.e {
			t.Errorf("%s: %v, %d, want %v, %d", x.name, s, e, x.want, x.e)
		}
	}
}

// P10.7: Judge returns its errors in their order.
func TestErrorsOfJudge(t *testing.T) {
	one := [][]int{{1}}
	bad, good := part(0, 0), part(1, 1)
	for _, x := range []struct {
		name  string
		rolls [][]int
		roll  []int
		level api.Ratio
		want  api.Errno
	}{
		{"no rolls", nil, nil, bad, api.ErrEmpty},
		{"an empty list of rolls", [][]int{}, list(1), good, api.ErrEmpty},
		{"thirteen rolls", make([][]int, 13), nil, bad, api.ErrMany},
		{"twelve rolls, and the first one is empty", make([][]int, 12), list(100001), bad, api.ErrEmpty},
		{"the second roll has too many delays", [][]int{{1}, make([]int, 17), {}}, nil, bad, api.ErrMany},
		{"the last roll is out of range", [][]int{{1}, {100001}}, nil, bad, api.ErrRange},
		{"the roll is empty", one, nil, bad, api.ErrEmpty},
		{"the roll has too many delays", one, make([]int, 17), bad, api.ErrMany},
		{"the roll is out of range", one, list(-100001), good, api.ErrRange},
		{"a level below 0", one, list(1), part(-1, 1), api.ErrRange},
		{"a level with a Num that is too great", one, list(1), part(1000001, 1), api.ErrRange},
		{"a level with the Den 0", one, list(1), part(1, 0), api.ErrRange},
		{"a level with a Den below 0", one, list(1), part(-1, -1), api.ErrRange},
		{"a level with a Den that is too great", one, list(1), part(1, 1000001), api.ErrRange},
		{"extreme levels", one, list(1), part(math.MaxInt, math.MaxInt), api.ErrRange},
		{"other extreme levels", one, list(1), part(math.MinInt, math.MinInt), api.ErrRange},
	} {
		if l, n, e := hand.Judge(x.rolls, x.roll, x.level); len(l) > 0 || n != 0 || e != x.want {
			t.Errorf("%s: %v, %d, %d, want %d", x.name, l, n, e, x.want)
		}
	}
}

// P10.7: Judge returns what the level says of each roll, and the first one with the greatest chance.
func TestJudge(t *testing.T) {
	const open, other = hand.Open, hand.Other
	two, three := [][]int{{1, 2}, {3, 4}}, [][]int{{1, 2, 3}, {5, 5}} // chances of 1/3; 1/10 and 1
	for _, x := range []struct {
		name     string
		rolls    [][]int
		roll     []int
		level    api.Ratio
		verdicts []int
		closest  int
	}{
		{"example", two, list(5, 6), part(1, 3), list(other, other), 0},
		{"not in lowest terms", two, list(5, 6), part(333333, 999999), list(other, other), 0},
		{"just below", two, list(5, 6), part(333333, 1000000), list(open, open), 0},
		{"just above", two, list(5, 6), part(333334, 1000000), list(other, other), 0},
		{"the level 0", two, list(5, 6), part(0, 1000000), list(open, open), 0},
		{"two chances", three, list(4, 5, 6), part(1, 10), list(other, open), 1},
		{"a level below both", three, list(4, 5, 6), part(99999, 1000000), list(open, open), 1},
		{"the level 1", three, list(4, 5, 6), part(1000000, 1000000), list(other, other), 1},
		{"a level above 1", three, list(4, 5, 6), part(1000000, 1), list(other, other), 1},
		{"the first of the greatest", [][]int{{1, 2, 3}, {5, 5}, {5}, {1, 2, 3}}, list(4, 5, 6), part(1, 2), list(other, open, open, other), 1},
		{"twelve rolls", slices.Repeat(two, 6), list(3, 4), part(1, 3), slices.Repeat(list(other, open), 6), 1},
		{"chances that are very small", [][]int{upTo(0, 16), upTo(1, 16)}, upTo(16, 16), part(1, 1000000), list(other, other), 1},
	} {
		if l, n, e := hand.Judge(x.rolls, x.roll, x.level); !slices.Equal(l, x.verdicts) || n != x.closest || e != api.OK {
			t.Errorf("%s: %v, %d, %d, want %v, %d", x.name, l, n, e, x.verdicts, x.closest)
		}
	}
}
