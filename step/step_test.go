package step_test

import (
	"math"
	"slices"
	"testing"

	"pianola/api"
	"pianola/step"
)

// P1.1: names have 1 to 8 letters from a to z.
func TestName(t *testing.T) {
	for _, s := range []string{"a", "z", "m", "az", "pianola", "abcdefgh", "zzzzzzzz"} {
		if !step.Name(s) {
			t.Errorf("Name(%q) = false", s)
		}
	}
	wrong := []string{
		"", "abcdefghi", "zzzzzzzzzzzzzzzz", "A", "Z", "aB", "`", "{", "a`", "{a", "0", "a9",
		"a b", " a", "a ", "a\x00", "a\n", "a-b", "a_b", "é", "aé", "\xff", "a\xffb", "ａ",
	}
	for _, s := range wrong {
		if step.Name(s) {
			t.Errorf("Name(%q) = true", s)
		}
	}
}

// checks are sheets with their errors.
var checks = []struct {
	name string
	x    step.Sheet
	want api.Errno
}{
	{"ordinary", exampleX(), api.OK},
	{"least", sheet(0, list(0)), api.OK},
	{"greatest off", sheet(50, list(0, 1000000)), api.OK},
	{"12 holes", sheet(3, make([]int, 12)), api.OK},
	{"6 copies", sheet(3, list(1), list(2), list(3), list(4), list(5), list(6)), api.OK},
	{"zero value", step.Sheet{}, api.ErrEmpty},
	{"empty list of copies", sheet(7, [][]int{}...), api.ErrEmpty},
	{"off below 0", sheet(-1, list(0)), api.ErrRange},
	{"off above 50", sheet(51, list(0)), api.ErrRange},
	{"extreme off", sheet(math.MinInt, list(0)), api.ErrRange},
	{"other extreme off", sheet(math.MaxInt, list(0)), api.ErrRange},
	{"off before no copy", sheet(-1), api.ErrRange},
	{"off before 7 copies", sheet(51, make([][]int, 7)...), api.ErrRange},
	{"7 copies before an empty one", sheet(0, make([][]int, 7)...), api.ErrMany},
	{"7 copies", sheet(0, list(1), list(1), list(1), list(1), list(1), list(1), list(1)), api.ErrMany},
	{"nil copy", sheet(0, nil), api.ErrEmpty},
	{"empty copy", sheet(0, list(1), list()), api.ErrEmpty},
	{"13 holes", sheet(0, make([]int, 13)), api.ErrMany},
	{"13 holes before their range", sheet(0, list(-1, 0, 0, 0, 0, 0, 0, 0, 0, 0, 0, 0, 0)), api.ErrMany},
	{"position below 0", sheet(0, list(4, -1)), api.ErrRange},
	{"position above MaxTime", sheet(0, list(4, 1000001, 5)), api.ErrRange},
	{"extreme positions", sheet(0, list(math.MaxInt, math.MinInt)), api.ErrRange},
	{"first copy decides: empty", sheet(0, list(1), nil, make([]int, 13), list(-1)), api.ErrEmpty},
	{"first copy decides: many", sheet(0, list(1), make([]int, 13), nil, list(-1)), api.ErrMany},
	{"first copy decides: range", sheet(0, list(1), list(-1), nil, make([]int, 13)), api.ErrRange},
}

// P1.1: Check returns the error that is named first.
func TestCheck(t *testing.T) {
	for _, c := range checks {
		if e := step.Check(c.x); e != c.want {
			t.Errorf("%s: Check = %d, want %d", c.name, e, c.want)
		}
	}
}

// P1.2 to P1.6: all other functions return the error of Check before their own ones.
func TestCheckComesFirst(t *testing.T) {
	for _, c := range checks {
		if c.want == api.OK {
			continue
		}
		offsets, e1 := step.Offsets(c.x, -1, 0)
		rows, e2 := step.Rows(c.x, -1, 0, -1)
		steps, e3 := step.Steps(c.x, span(2, 1))
		greatest, e4 := step.Greatest(c.x, span(2, 1))
		clash, e5 := step.Clash(c.x, -1, 0)
		e6 := step.Verify(c.x, -1, 0, nil)
		for i, e := range []api.Errno{e1, e2, e3, e4, e5, e6} {
			if e != c.want {
				t.Errorf("%s: function %d returns %d, want %d", c.name, i, e, c.want)
			}
		}
		if len(offsets)+len(rows)+len(steps)+len(clash)+greatest != 0 {
			t.Errorf("%s: results together with an error", c.name)
		}
	}
}

// P1.2, P1.3, P1.5, P1.6: the number of the copy is checked before the step.
func TestErrorsOfOffsets(t *testing.T) {
	cases := []struct {
		copied, size int
		want         api.Errno
	}{
		{-1, 7, api.ErrNone}, {2, 7, api.ErrNone}, {2, 0, api.ErrNone}, {-1, 1001, api.ErrNone},
		{math.MinInt, 1, api.ErrNone}, {math.MaxInt, 1, api.ErrNone},
		{0, 0, api.ErrRange}, {1, -1, api.ErrRange}, {1, 1001, api.ErrRange},
		{0, math.MinInt, api.ErrRange}, {0, math.MaxInt, api.ErrRange},
	}
	for _, c := range cases {
		offsets, e1 := step.Offsets(exampleX(), c.copied, c.size)
		rows, e2 := step.Rows(exampleX(), c.copied, c.size, -1)
		clash, e3 := step.Clash(exampleX(), c.copied, c.size)
		e4 := step.Verify(exampleX(), c.copied, c.size, nil)
		for i, e := range []api.Errno{e1, e2, e3, e4} {
			if e != c.want {
				t.Errorf("copy %d, step %d: function %d returns %d, want %d", c.copied, c.size, i, e, c.want)
			}
		}
		if len(offsets)+len(rows)+len(clash) != 0 {
			t.Errorf("copy %d, step %d: results together with an error", c.copied, c.size)
		}
	}
}

// P1.2: offsets, in ascending order, none if there is a clash.
func TestOffsets(t *testing.T) {
	cases := []struct {
		x            step.Sheet
		copied, size int
		want         []int
	}{
		{exampleX(), 0, 7, list(2, 3, 4)},
		{exampleX(), 0, 5, list(0)},
		{exampleX(), 1, 5, list(2, 3)},
		{exampleX(), 0, 8, nil},
		{exampleX(), 0, 1, list(0)},
		{exampleX(), 0, 3, list(0, 1, 2)},
		{exampleW(), 0, 4, list(1, 3)},
		{exampleW(), 0, 6, nil},
		{exampleZ(), 0, 2, list(0)},
		{sheet(2, list(0)), 0, 7, list(0, 1, 2, 5, 6)},
		{sheet(2, list(6)), 0, 7, list(0, 1, 4, 5, 6)},
		{sheet(2, list(0)), 0, 6, list(0, 1, 2, 4, 5)},
		{sheet(2, list(0, 3)), 0, 6, list(1, 2, 4, 5)},
		{sheet(0, list(1000000)), 0, 1000, list(0)},
		{sheet(0, list(999999)), 0, 1000, list(999)},
		{sheet(0, list(1000000, 999999)), 0, 1000, nil},
		{sheet(1, list(1000000, 999999)), 0, 1000, list(0, 999)},
	}
	for _, c := range cases {
		got, e := step.Offsets(c.x, c.copied, c.size)
		if e != api.OK || !slices.Equal(got, c.want) {
			t.Errorf("Offsets(%v, %d, %d) = %v, %d, want %v", c.x, c.copied, c.size, got, e, c.want)
		}
	}
}

// P1.3: the rows of each position, and the errors in their order.
func TestRows(t *testing.T) {
	cases := []struct {
		x                    step.Sheet
		copied, size, offset int
		want                 []api.Span
		e                    api.Errno
	}{
		{exampleX(), 0, 7, 3, []api.Span{span(1, 1), span(3, 3), span(4, 4), span(6, 6)}, api.OK},
		{exampleW(), 0, 2, 1, []api.Span{span(-1, 0), span(0, 1), span(1, 2)}, api.OK},
		{exampleW(), 0, 2, 0, []api.Span{span(0, 0), span(1, 1), span(2, 2)}, api.OK},
		{exampleW(), 0, 1, 0, []api.Span{span(-1, 1), span(1, 3), span(3, 5)}, api.OK},
		{exampleW(), 0, 4, 3, []api.Span{span(-1, -1), span(0, 0), span(0, 0)}, api.OK},
		{sheet(50, list(0)), 0, 1, 0, []api.Span{span(-50, 50)}, api.OK},
		{sheet(50, list(0)), 0, 101, 100, []api.Span{span(-1, -1)}, api.OK},
		{sheet(50, list(0)), 0, 100, 50, []api.Span{span(-1, 0)}, api.OK},
		{sheet(0, list(5, 5, 1000000)), 0, 5, 0, []api.Span{span(1, 1), span(1, 1), span(200000, 200000)}, api.OK},
		{exampleX(), 0, 7, 5, nil, api.ErrNone},
		{exampleX(), 0, 8, 0, nil, api.ErrNone},
		{exampleX(), 0, 7, 7, nil, api.ErrRange},
		{exampleX(), 0, 8, 8, nil, api.ErrRange},
		{exampleX(), 0, 7, -1, nil, api.ErrRange},
		{exampleX(), 0, 7, math.MinInt, nil, api.ErrRange},
		{exampleX(), 0, 7, math.MaxInt, nil, api.ErrRange},
	}
	for _, c := range cases {
		got, e := step.Rows(c.x, c.copied, c.size, c.offset)
		if e != c.e || !slices.Equal(got, c.want) {
			t.Errorf("Rows(%v, %d, %d, %d) = %v, %d, want %v, %d", c.x, c.copied, c.size, c.offset, got, e, c.want, c.e)
		}
	}
}

// P1.4: possible steps of a span, the greatest of them, and spans that are not as stated.
func TestStepsAndGreatest(t *testing.T) {
	cases := []struct {
		x        step.Sheet
		steps    api.Span
		want     []int
		greatest int
		e, f     api.Errno
	}{
		{exampleX(), span(5, 8), list(5, 7), 7, api.OK, api.OK},
		{exampleX(), span(1, 20), list(1, 2, 3, 5, 7), 7, api.OK, api.OK},
		{exampleX(), span(5, 5), list(5), 5, api.OK, api.OK},
		{exampleX(), span(4, 4), nil, 0, api.OK, api.ErrNone},
		{exampleX(), span(8, 20), nil, 0, api.OK, api.ErrNone},
		{exampleZ(), span(1, 10), list(1, 2), 2, api.OK, api.OK},
		{sheet(0, list(6, 18), list(1, 10)), span(1, 100), list(1, 3), 3, api.OK, api.OK},
		{sheet(0, list(7)), span(998, 1000), list(998, 999, 1000), 1000, api.OK, api.OK},
		{sheet(0, list(0, 1000000)), span(999, 1000), list(1000), 1000, api.OK, api.OK},
		{exampleX(), span(0, 5), nil, 0, api.ErrRange, api.ErrRange},
		{exampleX(), span(-3, -1), nil, 0, api.ErrRange, api.ErrRange},
		{exampleX(), span(5, 4), nil, 0, api.ErrRange, api.ErrRange},
		{exampleX(), span(5, 1001), nil, 0, api.ErrRange, api.ErrRange},
		{exampleX(), span(1001, 1002), nil, 0, api.ErrRange, api.ErrRange},
		{exampleX(), span(math.MinInt, math.MaxInt), nil, 0, api.ErrRange, api.ErrRange},
		{exampleX(), span(math.MaxInt, math.MinInt), nil, 0, api.ErrRange, api.ErrRange},
	}
	for _, c := range cases {
		got, e := step.Steps(c.x, c.steps)
		if e != c.e || !slices.Equal(got, c.want) {
			t.Errorf("Steps(%v, %v) = %v, %d, want %v, %d", c.x, c.steps, got, e, c.want, c.e)
		}
		greatest, f := step.Greatest(c.x, c.steps)
		if f != c.f || greatest != c.greatest {
			t.Errorf("Greatest(%v, %v) = %d, %d, want %d, %d", c.x, c.steps, greatest, f, c.greatest, c.f)
		}
	}
}

// P1.5: a clash with as few positions as any.
func TestClash(t *testing.T) {
	// With the error 2 each hole excludes two offsets of a step of 7.
	four := sheet(2, list(6, 1, 3, 5))
	cases := []struct {
		x            step.Sheet
		copied, size int
		holes        int
		e            api.Errno
	}{
		{exampleX(), 0, 8, 2, api.OK},
		{exampleX(), 1, 1000, 2, api.OK},
		{exampleW(), 0, 6, 3, api.OK},
		{exampleW(), 0, 5, 3, api.OK},
		{exampleZ(), 0, 4, 2, api.OK},
		{four, 0, 7, 4, api.OK},
		{sheet(0, list(0, 0, 0, 1)), 0, 2, 2, api.OK},
		{sheet(0, list(3, 3, 3)), 0, 1000, 0, api.ErrNone},
		{exampleX(), 0, 7, 0, api.ErrNone},
		{exampleX(), 0, 1, 0, api.ErrNone},
		{sheet(0, list(7)), 0, 1000, 0, api.ErrNone},
	}
	for _, c := range cases {
		got, e := step.Clash(c.x, c.copied, c.size)
		if e != c.e || len(got) != c.holes {
			t.Errorf("Clash(%v, %d, %d) = %v, %d, want %d holes, %d", c.x, c.copied, c.size, got, e, c.holes, c.e)
		}
		if e == api.OK && step.Verify(c.x, c.copied, c.size, got) != api.OK {
			t.Errorf("Clash(%v, %d, %d) = %v: not accepted", c.x, c.copied, c.size, got)
		}
	}
}

// P1.5 and the limits: a clash can need all twelve holes.
func TestClashOfTwelve(t *testing.T) {
	all := list(0, 1, 2, 3, 4, 5, 6, 7, 8, 9, 10, 11)
	var positions []int
	for i := range all {
		positions = append(positions, (i*5)%12+12*i*7000)
	}
	x := sheet(5, positions)
	if got, e := step.Clash(x, 0, 12); e != api.OK || !slices.Equal(got, all) {
		t.Errorf("Clash = %v, %d, want %v", got, e, all)
	}
	for i := range all {
		fewer := slices.Delete(slices.Clone(all), i, i+1)
		if e := step.Verify(x, 0, 12, fewer); e != api.ErrProof {
			t.Errorf("Verify(%v) = %d, want ErrProof", fewer, e)
		}
	}
}

// P1.6: clashes, lists that are none, and the errors in their order.
func TestVerify(t *testing.T) {
	cases := []struct {
		x            step.Sheet
		copied, size int
		holes        []int
		want         api.Errno
	}{
		{exampleW(), 0, 6, list(0, 1, 2), api.OK},
		{exampleX(), 0, 8, list(0, 3), api.OK},
		{exampleX(), 0, 8, list(0, 1, 2, 3), api.OK},
		{exampleX(), 1, 9, list(0, 1), api.OK},
		{exampleX(), 1, 8, list(0, 1), api.ErrProof},
		{exampleW(), 0, 6, list(0, 1), api.ErrProof},
		{exampleW(), 0, 6, list(0, 2), api.ErrProof},
		{exampleW(), 0, 6, list(1), api.ErrProof},
		{exampleX(), 0, 8, list(0, 1), api.ErrProof},
		{exampleX(), 0, 7, list(0, 1, 2, 3), api.ErrProof},
		{exampleW(), 0, 6, nil, api.ErrEmpty},
		{exampleW(), 0, 6, list(), api.ErrEmpty},
		{exampleW(), 0, 6, list(3), api.ErrNone},
		{exampleW(), 0, 6, list(-1), api.ErrNone},
		{exampleW(), 0, 6, list(0, 1, 2, 3), api.ErrNone},
		{exampleW(), 0, 6, list(math.MinInt), api.ErrNone},
		{exampleW(), 0, 6, list(math.MaxInt), api.ErrNone},
		{exampleW(), 0, 6, list(1, 0), api.ErrOrder},
		{exampleW(), 0, 6, list(1, 1), api.ErrOrder},
		{exampleW(), 0, 6, list(1, 0, 9), api.ErrOrder},
		{exampleW(), 0, 6, list(0, 9, 1), api.ErrNone},
		{exampleW(), 0, 6, list(2, -1), api.ErrNone},
		{exampleX(), 1, 8, list(0, 2), api.ErrNone},
	}
	for _, c := range cases {
		if e := step.Verify(c.x, c.copied, c.size, c.holes); e != c.want {
			t.Errorf("Verify(%v, %d, %d, %v) = %d, want %d", c.x, c.copied, c.size, c.holes, e, c.want)
		}
	}
}

// The chapter's limits.
func TestLimits(t *testing.T) {
	if step.MaxOff != 50 || step.MaxCopies != 6 || step.MaxHoles != 12 || step.MaxStep != 1000 {
		t.Error("a limit is not as stated")
	}
}
