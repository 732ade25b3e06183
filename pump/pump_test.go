package pump_test

import (
	"math"
	"slices"
	"testing"

	"pianola/api"
	"pianola/pump"
)

// boundLists are lists of bounds with their errors.
var boundLists = []struct {
	name string
	l    []pump.Bound
	want api.Errno
}{
	{"ordinary", exampleL(), api.OK},
	{"least and greatest", bounds(1, 0, 100, 1000000), api.OK},
	{"5 bounds", bounds(1, 1, 2, 2, 3, 3, 4, 4, 5, 5), api.OK},
	{"the same bound twice", bounds(3, 3, 3, 3), api.OK},
	{"nil", nil, api.ErrEmpty},
	{"empty", bounds(), api.ErrEmpty},
	{"6 bounds", bounds(1, 1, 2, 2, 3, 3, 4, 4, 5, 5, 6, 6), api.ErrMany},
	{"many before range", make([]pump.Bound, 6), api.ErrMany},
	{"no ticks", bounds(0, 1), api.ErrRange},
	{"ticks below 0", bounds(-1, 1), api.ErrRange},
	{"ticks above MaxTicks", bounds(101, 1), api.ErrRange},
	{"amount below 0", bounds(1, -1), api.ErrRange},
	{"amount above MaxAmount", bounds(1, 1000001), api.ErrRange},
	{"extremes", bounds(math.MinInt, math.MaxInt), api.ErrRange},
	{"other extremes", bounds(math.MaxInt, math.MinInt), api.ErrRange},
	{"last bound", bounds(1, 1, 2, 2, 3, 3, 4, 4, 0, 5), api.ErrRange},
}

// wrongTicks are numbers of ticks that are out of range.
var wrongTicks = []int{-1, 201, math.MinInt, math.MaxInt}

// P4.1: CheckBounds returns the error that is named first.
func TestCheckBounds(t *testing.T) {
	for _, x := range boundLists {
		if e := pump.CheckBounds(x.l); e != x.want {
			t.Errorf("%s: %d, want %d", x.name, e, x.want)
		}
	}
}

// P4.2 and P4.3: Most, Least, Cover and Pack return the error of CheckBounds, then that of ticks, and zero values.
func TestErrorsOfLists(t *testing.T) {
	for _, x := range boundLists {
		for _, ticks := range append(list(0, 1, 200), wrongTicks...) {
			want := x.want
			if want == api.OK && slices.Contains(wrongTicks, ticks) {
				want = api.ErrRange
			}
			most, a := pump.Most(x.l, ticks)
			least, b := pump.Least(x.l, ticks)
			cover, c := pump.Cover(x.l, ticks)
			pack, d := pump.Pack(x.l, ticks)
			if a != want || b != want || c != want || d != want {
				t.Errorf("%s, %d ticks: errors %d %d %d %d, want %d", x.name, ticks, a, b, c, d, want)
			}
			if want != api.OK && (most != 0 || least != 0 || len(cover) != 0 || len(pack) != 0) {
				t.Errorf("%s, %d ticks: %d %d %v %v with an error", x.name, ticks, most, least, cover, pack)
			}
		}
	}
}

// plants are plants with their errors.
func plants() map[string]struct {
	p    pump.Plant
	want api.Errno
} {
	bad, l, k := bounds(0, 0), exampleL(), exampleK()
	six := make([]pump.Bound, 6)
	type checked = struct {
		p    pump.Plant
		want api.Errno
	}
	return map[string]checked{
		"ordinary":                       {exampleP(), api.OK},
		"3 players and 3 regulators":     {pump.Plant{Players: slices.Repeat(rows(bounds(1, 1)), 3), Regulators: rows(k, k, k)}, api.OK},
		"zero value":                     {pump.Plant{}, api.ErrEmpty},
		"no player":                      {pump.Plant{Regulators: rows(k)}, api.ErrEmpty},
		"no regulator":                   {pump.Plant{Players: rows(l)}, api.ErrEmpty},
		"empty before many players":      {pump.Plant{Players: rows(l, l, l, l)}, api.ErrEmpty},
		"empty before many regulators":   {pump.Plant{Regulators: rows(k, k, k, k)}, api.ErrEmpty},
		"empty before bounds":            {pump.Plant{Players: rows(bad)}, api.ErrEmpty},
		"4 players":                      {pump.Plant{Players: rows(l, l, l, l), Regulators: rows(k)}, api.ErrMany},
		"4 regulators":                   {pump.Plant{Players: rows(l), Regulators: rows(k, k, k, k)}, api.ErrMany},
		"many players before bounds":     {pump.Plant{Players: rows(nil, l, l, l), Regulators: rows(bad)}, api.ErrMany},
		"many regulators before bounds":  {pump.Plant{Players: rows(bad), Regulators: rows(nil, k, k, k)}, api.ErrMany},
		"player without bounds":          {pump.Plant{Players: rows(l, nil), Regulators: rows(k)}, api.ErrEmpty},
		"player with 6 bounds":           {pump.Plant{Players: rows(l, six), Regulators: rows(k)}, api.ErrMany},
		"player with a wrong bound":      {pump.Plant{Players: rows(l, l, bad), Regulators: rows(k)}, api.ErrRange},
		"regulator without bounds":       {pump.Plant{Players: rows(l), Regulators: rows(nil, k)}, api.ErrEmpty},
		"regulator with 6 bounds":        {pump.Plant{Players: rows(l), Regulators: rows(k, six)}, api.ErrMany},
		"regulator with a wrong bound":   {pump.Plant{Players: rows(l), Regulators: rows(k, k, bad)}, api.ErrRange},
		"first player decides":           {pump.Plant{Players: rows(bad, nil), Regulators: rows(k)}, api.ErrRange},
		"first regulator decides":        {pump.Plant{Players: rows(l), Regulators: rows(six, nil, bad)}, api.ErrMany},
		"last player before regulator":   {pump.Plant{Players: rows(l, bad), Regulators: rows(nil)}, api.ErrRange},
		"empty player, wrong regulator":  {pump.Plant{Players: rows(nil), Regulators: rows(bad)}, api.ErrEmpty},
		"wrong player, empty regulators": {pump.Plant{Players: rows(bad), Regulators: rows()}, api.ErrEmpty},
	}
}

// P4.1: Check returns the error that is named first.
func TestCheck(t *testing.T) {
	for name, x := range plants() {
		if e := pump.Check(x.p); e != x.want {
			t.Errorf("%s: %d, want %d", name, e, x.want)
		}
	}
}

// P4.4 to P4.8: all calls return the error of Check, then that of ticks or of the course, and zero values.
func TestErrorsOfPlants(t *testing.T) {
	for name, x := range plants() {
		for _, ticks := range append(list(0, 1, 200), wrongTicks...) {
			want := x.want
			if want == api.OK && slices.Contains(wrongTicks, ticks) {
				want = api.ErrRange
			}
			row, a := pump.Row(x.p, ticks)
			drop, over, b := pump.Drop(x.p, ticks)
			delay, c := pump.Delay(x.p, ticks)
			course, d := pump.Worst(x.p, ticks)
			if a != want || b != want || c != want || d != want {
				t.Errorf("%s, %d ticks: errors %d %d %d %d, want %d", name, ticks, a, b, c, d, want)
			}
			if want != api.OK && (row != 0 || drop != 0 || over != 0 || delay != 0 || course.Demands != nil || course.Capacities != nil) {
				t.Errorf("%s, %d ticks: %d %d %d %d %v with an error", name, ticks, row, drop, over, delay, course)
			}
		}
		want := x.want
		if want == api.OK {
			want = api.ErrShape
		}
		for _, c := range []pump.Course{{}, {Demands: lists(list(-1))}, {Capacities: lists(nil, list(1))}} {
			if lacks, delays, e := pump.Lacks(x.p, c); e != want || len(lacks) != 0 || len(delays) != 0 {
				t.Errorf("%s: Lacks = %v, %v, %d, want %d", name, lacks, delays, e, want)
			}
		}
	}
}

// P4.2: the most and the least for 0 ticks, 1 tick, and so on.
func TestMostAndLeast(t *testing.T) {
	for _, x := range []struct {
		name        string
		l           []pump.Bound
		most, least []int
	}{
		{"L", exampleL(), list(0, 5, 9, 9, 14, 18), list(0, 5, 10, 15, 20, 25)},
		{"K", exampleK(), list(0, 4, 4, 8, 8, 12), list(0, 0, 4, 4, 8, 15)},
		{"one tick", bounds(1, 3), list(0, 3, 6, 9), list(0, 3, 6, 9)},
		{"nothing", bounds(1, 0), list(0, 0, 0, 0), list(0, 0, 0, 0)},
		{"fewer ticks than those of the bound", bounds(3, 7), list(0, 7, 7, 7, 14), list(0, 0, 0, 7, 7, 7, 14)},
		{"a bound that others make needless", bounds(2, 5, 1, 2), list(0, 2, 4, 6, 8), list(0, 2, 5, 7, 10)},
		{"a longer bound with a smaller amount", bounds(1, 9, 4, 6), list(0, 6, 6, 6, 6, 12), list(0, 9, 18, 27, 36)},
		{"the best bound for one tick is not used", bounds(5, 10, 3, 5), list(0, 5, 5, 5, 10, 10, 10, 15), list(0, 0, 0, 5, 5, 10, 10, 10, 15)},
		{"the same bound twice", bounds(2, 3, 2, 3), list(0, 3, 3, 6), list(0, 0, 3, 3, 6)},
		{"other order", bounds(5, 15, 2, 4), list(0, 4, 4, 8, 8, 12), list(0, 0, 4, 4, 8, 15)},
	} {
		for ticks, want := range x.most {
			if most, e := pump.Most(x.l, ticks); most != want || e != api.OK {
				t.Errorf("%s, %d ticks: Most = %d, %d, want %d", x.name, ticks, most, e, want)
			}
		}
		for ticks, want := range x.least {
			if least, e := pump.Least(x.l, ticks); least != want || e != api.OK {
				t.Errorf("%s, %d ticks: Least = %d, %d, want %d", x.name, ticks, least, e, want)
			}
		}
	}
}

// P4.2 and P4.3 at the limits.
func TestMostAndLeastAtTheLimits(t *testing.T) {
	for _, x := range []struct {
		name                       string
		l                          []pump.Bound
		most, least, cover, packed int
	}{
		{"greatest amounts", bounds(1, 1000000), 200000000, 200000000, 200, 200},
		{"greatest ticks", bounds(100, 1000000), 2000000, 2000000, 2, 2},
		{"a tick too many", bounds(67, 5), 15, 10, 3, 2},
	} {
		most, a := pump.Most(x.l, pump.MaxRoll)
		least, b := pump.Least(x.l, pump.MaxRoll)
		cover, c := pump.Cover(x.l, pump.MaxRoll)
		pack, d := pump.Pack(x.l, pump.MaxRoll)
		if most != x.most || least != x.least || len(cover) != x.cover || len(pack) != x.packed || a != api.OK || b != api.OK || c != api.OK || d != api.OK {
			t.Errorf("%s: %d %d, %v, %v, errors %d %d %d %d", x.name, most, least, cover, pack, a, b, c, d)
		}
	}
}

// P4.3: covers and packings of which there is only one.
func TestCoverAndPack(t *testing.T) {
	for _, x := range []struct {
		name        string
		l           []pump.Bound
		ticks       int
		cover, pack []int
	}{
		{"L", exampleL(), 5, list(1, 1), list(0, 0, 0, 0, 0)},
		{"K", exampleK(), 7, list(0, 0, 0, 0), list(0, 1)},
		{"no ticks", exampleK(), 0, nil, nil},
		{"too few ticks", bounds(4, 10), 3, list(0), nil},
		{"indices ascend", bounds(1, 2, 3, 4, 10, 9), 14, list(0, 1, 2), slices.Repeat(list(0), 14)},
		{"indices ascend, other order", bounds(10, 30, 3, 8, 1, 1), 14, nil, list(0, 1, 2)},
	} {
		cover, e := pump.Cover(x.l, x.ticks)
		if e != api.OK || x.cover != nil && !slices.Equal(cover, x.cover) || x.ticks == 0 && len(cover) != 0 {
			t.Errorf("%s: Cover = %v, %d, want %v", x.name, cover, e, x.cover)
		}
		pack, e := pump.Pack(x.l, x.ticks)
		if e != api.OK || !slices.Equal(pack, x.pack) {
			t.Errorf("%s: Pack = %v, %d, want %v", x.name, pack, e, x.pack)
		}
	}
}

// P4.4: the row is the smallest sum of leasts.
func TestRow(t *testing.T) {
	l := rows(exampleL())
	for _, x := range []struct {
		name string
		p    pump.Plant
		want []int
	}{
		{"P", exampleP(), list(0, 0, 4, 4, 8, 15)},
		{"Q", exampleQ(), list(0, 0, 0, 4, 4, 8, 8, 12, 16, 19, 23)},
		{"one of two never passes anything", pump.Plant{Players: l, Regulators: rows(exampleK(), bounds(3, 0))}, list(0, 0, 0, 0, 0, 0)},
		{"one of two is slow", pump.Plant{Players: l, Regulators: rows(bounds(1, 9), bounds(2, 4))}, list(0, 0, 4, 4, 8, 8, 12)},
		{"three", pump.Plant{Players: l, Regulators: rows(bounds(2, 5), bounds(2, 3), bounds(3, 4))}, list(0, 0, 0, 0, 0, 3, 3, 4, 6)},
		{"players do not matter", pump.Plant{Players: rows(bounds(1, 0), bounds(9, 99)), Regulators: rows(exampleK())}, list(0, 0, 4, 4, 8, 15)},
	} {
		for ticks, want := range x.want {
			if row, e := pump.Row(x.p, ticks); row != want || e != api.OK {
				t.Errorf("%s, %d ticks: %d, %d, want %d", x.name, ticks, row, e, want)
			}
		}
	}
}

// drops are plants with what Drop and Delay return.
func drops() []struct {
	name              string
	p                 pump.Plant
	ticks, drop, over int
	delay             int
	e                 api.Errno // of Delay
} {
	l, k := exampleL(), exampleK()
	one := bounds(1, 1)
	return []struct {
		name              string
		p                 pump.Plant
		ticks, drop, over int
		delay             int
		e                 api.Errno
	}{
		{"P, no ticks", exampleP(), 0, 0, 0, 0, api.OK},
		{"P, 1 tick", exampleP(), 1, 5, 1, 3, api.OK},
		{"P, 3 ticks", exampleP(), 3, 5, 1, 3, api.OK},
		{"P, 6 ticks", exampleP(), 6, 6, 4, 3, api.OK},
		{"Q, 2 ticks", exampleQ(), 2, 9, 2, 5, api.OK},
		{"always enough", simple(l, bounds(1, 5)), 200, 0, 0, 0, api.OK},
		{"nothing is demanded", simple(bounds(7, 0), bounds(1, 0)), 200, 0, 0, 0, api.OK},
		{"nothing is passed", simple(one, bounds(1, 0)), 200, 200, 200, 0, api.ErrOver},
		{"nothing is passed, no ticks", simple(one, bounds(1, 0)), 0, 0, 0, 0, api.OK},
		{"too slow", simple(bounds(1, 3), bounds(1, 2)), 200, 200, 200, 100, api.OK},
		{"just not too slow", simple(bounds(1, 2), bounds(1, 1)), 200, 200, 200, 200, api.OK},
		{"much too slow", simple(bounds(1, 3), bounds(1, 1)), 101, 202, 101, 0, api.ErrOver},
		{"much too slow, but not for long", simple(bounds(1, 3), bounds(1, 1)), 100, 200, 100, 200, api.OK},
		{"as much as is demanded", simple(one, bounds(10, 10)), 200, 9, 9, 9, api.OK},
		{"first of equal lacks", simple(bounds(1, 4), bounds(2, 8)), 50, 4, 1, 1, api.OK},
		{"two players", pump.Plant{Players: rows(l, one), Regulators: rows(k)}, 4, 10, 4, 3, api.OK},
		{"as many ticks as a course has", simple(bounds(100, 2), bounds(100, 1)), 100, 2, 1, 199, api.OK},
		{"longer than a course", simple(bounds(100, 2), bounds(100, 1)), 200, 3, 101, 0, api.ErrOver},
		{"greatest amounts", pump.Plant{Players: slices.Repeat(rows(bounds(1, 1000000)), 3), Regulators: rows(bounds(100, 1000000))}, 200, 598000000, 200, 0, api.ErrOver},
		{"greatest ticks in a row", pump.Plant{Players: rows(bounds(100, 1)), Regulators: slices.Repeat(rows(bounds(67, 9)), 3)}, 200, 2, 101, 198, api.OK},
	}
}

// P4.5: Drop returns the greatest lack, and the first number of ticks in which it comes about.
func TestDrop(t *testing.T) {
	for _, x := range drops() {
		if drop, over, e := pump.Drop(x.p, x.ticks); drop != x.drop || over != x.over || e != api.OK {
			t.Errorf("%s: %d, %d, %d, want %d, %d", x.name, drop, over, e, x.drop, x.over)
		}
	}
}

// P4.6: Delay returns the smallest number of ticks that is enough, or ErrOver.
func TestDelay(t *testing.T) {
	for _, x := range drops() {
		if delay, e := pump.Delay(x.p, x.ticks); delay != x.delay || e != x.e {
			t.Errorf("%s: %d, %d, want %d, %d", x.name, delay, e, x.delay, x.e)
		}
	}
}

// P4.7: Worst returns a course in which the greatest lack comes about.
func TestWorst(t *testing.T) {
	for _, x := range drops() {
		c, e := pump.Worst(x.p, x.ticks)
		if e != api.OK || len(c.Demands) != len(x.p.Players) || len(c.Capacities) != len(x.p.Regulators) {
			t.Errorf("%s: Worst = %v, %d", x.name, c, e)
			continue
		}
		lacks, _, e := pump.Lacks(x.p, c)
		if e != api.OK || len(lacks) != x.over || x.over > 0 && lacks[x.over-1] != x.drop {
			t.Errorf("%s: Lacks of Worst = %v, %d, want %d over %d", x.name, lacks, e, x.drop, x.over)
		}
	}
}

// course returns a course of one player and one regulator.
func course(demand, capacity []int) pump.Course {
	return pump.Course{Demands: lists(demand), Capacities: lists(capacity)}
}

// P4.8: Lacks returns the lack and the delay of each tick.
func TestLacks(t *testing.T) {
	free := bounds(1, 1000000)
	loose := bounds(1, 0)
	two := pump.Plant{Players: rows(free), Regulators: rows(loose, loose)}
	for _, x := range []struct {
		name          string
		p             pump.Plant
		c             pump.Course
		lacks, delays []int
	}{
		{"example", exampleP(), course(list(5, 4, 0, 5), list(0, 4, 0, 4)), list(5, 5, 5, 6), list(3, -1, -1, -1)},
		{"no ticks", exampleP(), course(nil, nil), nil, nil},
		{"no ticks, empty", exampleP(), course(list(), nil), nil, nil},
		{"all at once", exampleP(), course(list(5), list(5)), list(0), list(0)},
		{"fewer ticks than those of the bounds", exampleP(), course(list(5), list(0)), list(5), list(-1)},
		{"a tick without demand waits for those before it", simple(free, loose), course(list(3, 0, 0), list(0, 0, 3)), list(3, 3, 0), list(2, 1, 0)},
		{"nothing is demanded", simple(free, loose), course(list(0, 0), list(0, 0)), list(0, 0), list(0, 0)},
		{"capacity is not kept", simple(free, loose), course(list(0, 5), list(9, 1)), list(0, 4), list(0, -1)},
		{"delivered in parts", simple(free, loose), course(list(6, 0, 0), list(2, 2, 2)), list(4, 2, 0), list(2, 1, 0)},
		{"two in a row pass in the same tick", two, pump.Course{Demands: lists(list(4)), Capacities: lists(list(4), list(3))}, list(1), list(-1)},
		{"what waits at the second one is lacking", two, pump.Course{Demands: lists(list(6, 3, 0, 0)), Capacities: lists(list(4, 0, 9, 0), list(3, 3, 1, 4))}, list(3, 5, 4, 0), list(3, 2, 1, 0)},
		{"two players wait together", pump.Plant{Players: rows(free, free), Regulators: rows(loose)}, pump.Course{Demands: lists(list(2, 0), list(3, 1)), Capacities: lists(list(4, 1))}, list(1, 1), list(1, -1)},
		{"greatest numbers", simple(free, loose), course(list(1000000, 1000000), list(0, 1000000)), list(1000000, 1000000), list(1, -1)},
		{"the most in a row", exampleP(), course(list(5, 4, 0, 5, 4, 0), list(9, 9, 9, 9, 9, 9)), list(0, 0, 0, 0, 0, 0), list(0, 0, 0, 0, 0, 0)},
		{"the least in a row", exampleP(), course(list(0, 0, 0, 0, 0), list(0, 4, 0, 4, 7)), list(0, 0, 0, 0, 0), list(0, 0, 0, 0, 0)},
	} {
		lacks, delays, e := pump.Lacks(x.p, x.c)
		if !slices.Equal(lacks, x.lacks) || !slices.Equal(delays, x.delays) || e != api.OK {
			t.Errorf("%s: %v, %v, %d, want %v, %v", x.name, lacks, delays, e, x.lacks, x.delays)
		}
	}
}

// P4.8: Lacks returns the error that is named first, and no lists.
func TestErrorsOfLacks(t *testing.T) {
	zeros, wrong := make([]int, 401), slices.Repeat(list(-1), 401)
	free, loose := bounds(1, 1000000), bounds(1, 0)
	double := pump.Plant{Players: rows(free, exampleL()), Regulators: rows(loose, exampleK())}
	for _, x := range []struct {
		name string
		p    pump.Plant
		c    pump.Course
		want api.Errno
	}{
		{"no demand", exampleP(), pump.Course{Capacities: lists(list(4))}, api.ErrShape},
		{"no capacity", exampleP(), pump.Course{Demands: lists(list(4))}, api.ErrShape},
		{"two demands", exampleP(), pump.Course{Demands: lists(nil, nil), Capacities: lists(nil)}, api.ErrShape},
		{"two capacities", exampleP(), pump.Course{Demands: lists(nil), Capacities: lists(nil, nil)}, api.ErrShape},
		{"demand is longer", exampleP(), course(list(1, 1), list(1)), api.ErrShape},
		{"capacity is longer", exampleP(), course(nil, list(1)), api.ErrShape},
		{"second demand is longer", double, pump.Course{Demands: lists(list(1), list(1, 1)), Capacities: lists(list(1), list(1))}, api.ErrShape},
		{"second capacity is longer", double, pump.Course{Demands: lists(list(1), list(1)), Capacities: lists(list(1), list(1, 1))}, api.ErrShape},
		{"shape before many", exampleP(), course(zeros, zeros[1:]), api.ErrShape},
		{"shape before range", exampleP(), course(list(-1), list(1, 1)), api.ErrShape},
		{"401 ticks", simple(free, loose), course(zeros, zeros), api.ErrMany},
		{"many before range", exampleP(), course(wrong, wrong), api.ErrMany},
		{"400 ticks are not many", exampleP(), course(wrong[1:], wrong[1:]), api.ErrRange},
		{"demand below 0", exampleP(), course(list(0, -1), list(4, 4)), api.ErrRange},
		{"demand above MaxAmount", simple(free, loose), course(list(1000001), list(4)), api.ErrRange},
		{"capacity below 0", simple(free, loose), course(list(0, 0), list(4, -1)), api.ErrRange},
		{"capacity above MaxAmount", simple(free, loose), course(list(0, 0), list(4, 1000001)), api.ErrRange},
		{"extreme demand", simple(free, loose), course(list(math.MinInt), list(4)), api.ErrRange},
		{"extreme capacity", simple(free, loose), course(list(0), list(math.MaxInt)), api.ErrRange},
		{"second lists", double, pump.Course{Demands: lists(list(0), list(0)), Capacities: lists(list(0), list(-1))}, api.ErrRange},
		{"range before rule", exampleP(), course(list(6, 0), list(0, -1)), api.ErrRange},
		{"a tick has too much", exampleP(), course(list(6), list(4)), api.ErrRule},
		{"fewer ticks than those of the bound have too much", exampleP(), course(list(5, 5), list(4, 4)), api.ErrRule},
		{"some ticks have too much", exampleP(), course(list(0, 5, 0, 5), list(4, 4, 4, 4)), api.ErrRule},
		{"last ticks have too little", exampleP(), course(list(0, 0, 0), list(3, 3, 0)), api.ErrRule},
		{"first ticks have too little", exampleP(), course(list(0, 0, 0), list(0, 3, 9)), api.ErrRule},
		{"the second bound is not had", exampleP(), course(list(0, 0, 0, 0, 0), list(0, 4, 0, 4, 6)), api.ErrRule},
		{"second player", double, pump.Course{Demands: lists(list(9), list(6)), Capacities: lists(list(0), list(0))}, api.ErrRule},
		{"second regulator", double, pump.Course{Demands: lists(list(9, 9), list(0, 0)), Capacities: lists(list(0, 0), list(0, 3))}, api.ErrRule},
	} {
		lacks, delays, e := pump.Lacks(x.p, x.c)
		if e != x.want || len(lacks) != 0 || len(delays) != 0 {
			t.Errorf("%s: %v, %v, %d, want %d", x.name, lacks, delays, e, x.want)
		}
	}
}

// P4.8: a course can have 400 ticks.
func TestLacksOfALongCourse(t *testing.T) {
	c := course(slices.Repeat(list(2, 1), 200), slices.Repeat(list(0, 3), 200))
	lacks, delays, e := pump.Lacks(simple(bounds(1, 2), bounds(2, 3)), c)
	if !slices.Equal(lacks, slices.Repeat(list(2, 0), 200)) || !slices.Equal(delays, slices.Repeat(list(1, 0), 200)) || e != api.OK {
		t.Errorf("Lacks = %v, %v, %d", lacks, delays, e)
	}
}
