package pump_test

import (
	"math/rand"
	"reflect"
	"slices"
	"testing"

	"pianola/api"
	"pianola/pump"
)

// must fails a test if there is an error.
func must(t *testing.T, e api.Errno) {
	t.Helper()
	if e != api.OK {
		t.Fatalf("error %d", e)
	}
}

// most returns the most of bounds.
func most(t *testing.T, l []pump.Bound, ticks int) int {
	t.Helper()
	n, e := pump.Most(l, ticks)
	must(t, e)
	return n
}

// least returns the least of bounds.
func least(t *testing.T, l []pump.Bound, ticks int) int {
	t.Helper()
	n, e := pump.Least(l, ticks)
	must(t, e)
	return n
}

// row returns the row of a plant.
func row(t *testing.T, p pump.Plant, ticks int) int {
	t.Helper()
	n, e := pump.Row(p, ticks)
	must(t, e)
	return n
}

// drop returns the greatest lack of a plant.
func drop(t *testing.T, p pump.Plant, ticks int) int {
	t.Helper()
	n, _, e := pump.Drop(p, ticks)
	must(t, e)
	return n
}

// delay returns the delay of a plant, or one more than MaxRoll.
func delay(t *testing.T, p pump.Plant, ticks int) int {
	t.Helper()
	n, e := pump.Delay(p, ticks)
	if e == api.ErrOver {
		return pump.MaxRoll + 1
	}
	must(t, e)
	return n
}

// together returns the Ticks and the Amounts of bounds, together.
func together(l []pump.Bound, indices []int) (ticks, amount int) {
	for _, i := range indices {
		ticks += l[i].Ticks
		amount += l[i].Amount
	}
	return ticks, amount
}

// P4.2: mosts and leasts are those of the definitions.
func TestMostAndLeastAreExact(t *testing.T) {
	r := newRandom()
	for range 400 {
		l := anyBounds(r, 4, 5, 4)
		for ticks := range 5 {
			if got, want := most(t, l, ticks), mostOf(l, ticks); got != want {
				t.Fatalf("Most(%v, %d) = %d, want %d", l, ticks, got, want)
			}
			if got, want := least(t, l, ticks), leastOf(l, ticks); got != want {
				t.Fatalf("Least(%v, %d) = %d, want %d", l, ticks, got, want)
			}
		}
	}
}

// P4.3 (with P4.9): covers and packings are what they claim to be, and have the most and the least.
func TestCoverAndPackAreBest(t *testing.T) {
	r := newRandom()
	for range 500 {
		l := anyBounds(r, pump.MaxBounds, 1+r.Intn(pump.MaxTicks), pump.MaxAmount)
		n := r.Intn(pump.MaxRoll + 1)
		cover, e := pump.Cover(l, n)
		must(t, e)
		if ticks, amount := together(l, cover); ticks < n || amount != most(t, l, n) || !slices.IsSorted(cover) {
			t.Fatalf("Cover(%v, %d) = %v", l, n, cover)
		}
		pack, e := pump.Pack(l, n)
		must(t, e)
		if ticks, amount := together(l, pack); ticks > n || amount != least(t, l, n) || !slices.IsSorted(pack) {
			t.Fatalf("Pack(%v, %d) = %v", l, n, pack)
		}
	}
}

// anyCover returns bounds in any order, whose Ticks are together at least so many; all but the last one are a packing.
func anyCover(r *rand.Rand, l []pump.Bound, n int) []int {
	var cover []int
	for ticks := 0; ticks < n; ticks, _ = together(l, cover) {
		cover = append(cover, r.Intn(len(l)))
	}
	return cover
}

// P4.9: no demand has more than any cover, and one has as much as that of Cover; no capacity has less than any packing, and one has as little as that of Pack.
func TestBothSides(t *testing.T) {
	r := newRandom()
	for range 400 {
		l := even(r, 1+r.Intn(20), 10)
		n := 1 + r.Intn(60)
		demand, capacity := anyDemand(r, l, n), anyCapacity(r, l, n)
		if !keeps(l, demand) || sum(demand) > most(t, l, n) {
			t.Fatalf("Most(%v, %d): demand %v", l, n, demand)
		}
		if !has(l, capacity) || sum(capacity) < least(t, l, n) {
			t.Fatalf("Least(%v, %d): capacity %v", l, n, capacity)
		}
		cover := anyCover(r, l, n)
		if _, amount := together(l, cover); amount < most(t, l, n) {
			t.Fatalf("Most(%v, %d): cover %v", l, n, cover)
		}
		if ticks, _ := together(l, cover); ticks > n {
			cover = cover[:len(cover)-1]
		}
		if _, amount := together(l, cover); amount > least(t, l, n) {
			t.Fatalf("Least(%v, %d): packing %v", l, n, cover)
		}
		demand, capacity = grown(t, most, l, n), grown(t, least, l, n)
		if !keeps(l, demand) || !has(l, capacity) || sum(demand) != most(t, l, n) || sum(capacity) != least(t, l, n) {
			t.Fatalf("%v, %d ticks: demand %v, capacity %v", l, n, demand, capacity)
		}
	}
}

// grown returns by how much the most or the least grows with each tick.
func grown(t *testing.T, of func(*testing.T, []pump.Bound, int) int, l []pump.Bound, ticks int) []int {
	t.Helper()
	var growth []int
	for n := range ticks {
		growth = append(growth, of(t, l, n+1)-of(t, l, n))
	}
	return growth
}

// P4.10: more ticks have at most, or at least, as much as their parts.
func TestLonger(t *testing.T) {
	r := newRandom()
	for range 1000 {
		l := anyBounds(r, pump.MaxBounds, 1+r.Intn(pump.MaxTicks), pump.MaxAmount)
		m := r.Intn(pump.MaxRoll + 1)
		n := r.Intn(pump.MaxRoll + 1 - m)
		a, b, both := most(t, l, m), most(t, l, n), most(t, l, m+n)
		if both > a+b || both < max(a, b) {
			t.Fatalf("Most(%v): %d for %d, %d for %d, %d for all", l, a, m, b, n, both)
		}
		if a, b, both := least(t, l, m), least(t, l, n), least(t, l, m+n); both < a+b {
			t.Fatalf("Least(%v): %d for %d, %d for %d, %d for all", l, a, m, b, n, both)
		}
	}
}

// P4.4 and P4.5 (with P4.11): rows and drops are those of the definitions, and over is the smallest number.
func TestRowAndDropAreExact(t *testing.T) {
	r := newRandom()
	for range 600 {
		p := pump.Plant{Players: anyLists(r, 1+r.Intn(2), 2, 3, 2), Regulators: anyLists(r, 1+r.Intn(2), 2, 3, 2)}
		ticks := r.Intn(3)
		if len(p.Players)+len(p.Regulators) == 2 {
			ticks = r.Intn(5)
		}
		for n := range 5 {
			if got, want := row(t, p, n), rowOf(p.Regulators, n); got != want {
				t.Fatalf("Row(%v, %d) = %d, want %d", p, n, got, want)
			}
		}
		lack, over, e := pump.Drop(p, ticks)
		must(t, e)
		if want := dropOf(p, ticks); lack != want || over != overOf(t, p, lack) {
			t.Fatalf("Drop(%v, %d) = %d, %d, want %d", p, ticks, lack, over, want)
		}
	}
}

// overOf returns the smallest number of ticks for which the mosts are the row and a lack.
func overOf(t *testing.T, p pump.Plant, lack int) int {
	t.Helper()
	for n := range pump.MaxRoll + 1 {
		mosts := 0
		for _, l := range p.Players {
			mosts += most(t, l, n)
		}
		if mosts == row(t, p, n)+lack {
			return n
		}
	}
	return -1
}

// P4.6 (with P4.11): what Delay returns is enough in all courses, and less is not.
func TestDelayIsExact(t *testing.T) {
	r := newRandom()
	compared := 0
	for range 400 {
		p := simple(anyBounds(r, 2, 3, 2), anyBounds(r, 2, 3, 2))
		if r.Intn(2) == 0 {
			p.Regulators = append(p.Regulators, anyBounds(r, 2, 2, 1))
		}
		ticks := 1 + r.Intn(2)
		got := delay(t, p, ticks)
		if ticks+min(got, 6) > 6-len(p.Regulators) {
			continue // too many courses
		}
		if got > 0 {
			compared++
		}
		if !isDelay(p, ticks, got) || got > 0 && isDelay(p, ticks, got-1) {
			t.Fatalf("Delay(%v, %d) = %d", p, ticks, got)
		}
	}
	if compared < 50 {
		t.Errorf("only %d delays above 0 were compared", compared)
	}
}

// slowest returns a course in which players take the most in n ticks, and regulators pass the least in n and so many ticks more.
func slowest(t *testing.T, p pump.Plant, n, more int) pump.Course {
	t.Helper()
	var c pump.Course
	for _, l := range p.Players {
		c.Demands = append(c.Demands, append(grown(t, most, l, n), make([]int, more)...))
	}
	left := n + more
	for i, l := range p.Regulators {
		own := left
		for part := range left + 1 {
			rest := pump.Plant{Players: p.Players, Regulators: p.Regulators[i+1:]}
			if len(rest.Regulators) > 0 && least(t, l, part)+row(t, rest, left-part) == row(t, pump.Plant{Players: p.Players, Regulators: p.Regulators[i:]}, left) {
				own = part
			}
		}
		capacity := slices.Repeat(list(pump.MaxAmount), n+more)
		copy(capacity[n+more-left:], grown(t, least, l, own))
		c.Capacities = append(c.Capacities, capacity)
		left -= own
	}
	return c
}

// P4.11 (with P4.5 to P4.8): in no course is the lack or a delay greater; both come about.
func TestNeverWorse(t *testing.T) {
	r := newRandom()
	for range 250 {
		p := largePlant(r, 1+r.Intn(8))
		ticks := 1 + r.Intn(20)
		worst, late := drop(t, p, ticks), delay(t, p, ticks)
		lacks, _, e := pump.Lacks(p, anyCourse(r, p, ticks))
		must(t, e)
		if slices.Max(lacks) > worst {
			t.Fatalf("Drop(%v, %d) = %d, but there is a lack of %d", p, ticks, worst, slices.Max(lacks))
		}
		_, delays, e := pump.Lacks(p, anyCourse(r, p, ticks+min(late, pump.MaxRoll)))
		must(t, e)
		if late <= pump.MaxRoll && (slices.Min(delays[:ticks]) < 0 || slices.Max(delays[:ticks]) > late) {
			t.Fatalf("Delay(%v, %d) = %d, but there are delays %v", p, ticks, late, delays)
		}
		if late > 0 && late < 40 && !comesAbout(t, p, ticks, late) {
			t.Fatalf("Delay(%v, %d) = %d does not come about", p, ticks, late)
		}
	}
}

// comesAbout reports whether there is a course in which a delay of a tick is at least so long.
func comesAbout(t *testing.T, p pump.Plant, ticks, late int) bool {
	t.Helper()
	for n := 1; n <= ticks; n++ {
		_, delays, e := pump.Lacks(p, slowest(t, p, n, late-1))
		must(t, e)
		if delays[n-1] < 0 {
			return true
		}
	}
	return false
}

// P4.7 (with P4.5): the last lack of Worst is the drop, in as many ticks as over.
func TestWorstIsWorst(t *testing.T) {
	r := newRandom()
	for range 400 {
		p := largePlant(r, 1+r.Intn(pump.MaxTicks))
		ticks := r.Intn(pump.MaxRoll + 1)
		worst, over, e := pump.Drop(p, ticks)
		must(t, e)
		c, e := pump.Worst(p, ticks)
		must(t, e)
		lacks, _, e := pump.Lacks(p, c)
		if e != api.OK || len(lacks) != over || over > 0 && lacks[over-1] != worst || over > ticks || over != overOf(t, p, worst) {
			t.Fatalf("Worst(%v, %d) = %v: %v, %d, want %d over %d", p, ticks, c, lacks, e, worst, over)
		}
	}
}

// P4.8: lacks and delays are those of the definition.
func TestLacksAreExact(t *testing.T) {
	r := newRandom()
	for range 1000 {
		p := largePlant(r, 1+r.Intn(6))
		c := anyCourse(r, p, r.Intn(30))
		lacks, delays, e := pump.Lacks(p, c)
		must(t, e)
		if a, b := lacksOf(c); !slices.Equal(lacks, a) || !slices.Equal(delays, b) {
			t.Fatalf("Lacks(%v, %v) = %v, %v, want %v, %v", p, c, lacks, delays, a, b)
		}
	}
}

// P4.8: just those courses are accepted that keep and have the bounds.
func TestLacksAcceptsJustCourses(t *testing.T) {
	r := newRandom()
	accepted := 0
	for range 3000 {
		p := simple(anyBounds(r, 3, 4, 6), anyBounds(r, 3, 4, 6))
		c := anyCourse(r, p, 1+r.Intn(8))
		for _, l := range [][]int{c.Demands[0], c.Capacities[0]} {
			if i := r.Intn(2 * len(l)); i < len(l) { // half of the lists are changed
				l[i] = r.Intn(7)
			}
		}
		want := api.ErrRule
		if keeps(p.Players[0], c.Demands[0]) && has(p.Regulators[0], c.Capacities[0]) {
			want = api.OK
			accepted++
		}
		if _, _, e := pump.Lacks(p, c); e != want {
			t.Fatalf("Lacks(%v, %v) = %d, want %d", p, c, e, want)
		}
	}
	if accepted < 300 || accepted > 2700 {
		t.Errorf("%d courses are accepted", accepted)
	}
}

// shuffled returns a list in another order.
func shuffled[T any](r *rand.Rand, l []T) []T {
	l = slices.Clone(l)
	r.Shuffle(len(l), func(i, j int) { l[i], l[j] = l[j], l[i] })
	return l
}

// P4.12: the order of regulators, of players and of bounds does not matter.
func TestOrderDoesNotMatter(t *testing.T) {
	r := newRandom()
	for range 400 {
		p := largePlant(r, 1+r.Intn(30))
		n := r.Intn(pump.MaxRoll + 1)
		q := pump.Plant{Players: shuffled(r, p.Players), Regulators: shuffled(r, p.Regulators)}
		for _, all := range [][][]pump.Bound{q.Players, q.Regulators} {
			for i := range all {
				all[i] = shuffled(r, all[i])
			}
		}
		a, overA, e := pump.Drop(p, n)
		must(t, e)
		b, overB, e := pump.Drop(q, n)
		must(t, e)
		if a != b || overA != overB || row(t, p, n) != row(t, q, n) || delay(t, p, n) != delay(t, q, n) {
			t.Fatalf("%v and %v differ, %d ticks", p, q, n)
		}
	}
}

// P4.12: with regulators in a row the drop is at least that with each one alone, and at most their sum.
func TestRegulatorsInARow(t *testing.T) {
	r := newRandom()
	for range 400 {
		p := largePlant(r, 1+r.Intn(30))
		n := r.Intn(pump.MaxRoll + 1)
		greatest, all := 0, 0
		for _, l := range p.Regulators {
			alone := drop(t, pump.Plant{Players: p.Players, Regulators: rows(l)}, n)
			greatest, all = max(greatest, alone), all+alone
		}
		if got := drop(t, p, n); got < greatest || got > all {
			t.Fatalf("Drop(%v, %d) = %d, want from %d to %d", p, n, got, greatest, all)
		}
	}
}

// changed returns a plant with a bound of all players, and one of all regulators, changed.
func changed(p pump.Plant, player, regulator func(pump.Bound) pump.Bound) pump.Plant {
	var q pump.Plant
	for _, l := range p.Players {
		q.Players = append(q.Players, changedList(l, player))
	}
	for _, l := range p.Regulators {
		q.Regulators = append(q.Regulators, changedList(l, regulator))
	}
	return q
}

// changedList returns a list with all bounds changed.
func changedList(l []pump.Bound, change func(pump.Bound) pump.Bound) []pump.Bound {
	var out []pump.Bound
	for _, b := range l {
		out = append(out, change(b))
	}
	return out
}

// P4.13: with one player or regulator less, or with other amounts, nothing is worse.
func TestMoreIsNotWorse(t *testing.T) {
	r := newRandom()
	for range 400 {
		p := largePlant(r, 1+r.Intn(30))
		n := r.Intn(pump.MaxRoll + 1)
		same := func(b pump.Bound) pump.Bound { return b }
		better := []pump.Plant{
			changed(p, same, func(b pump.Bound) pump.Bound { b.Amount += r.Intn(5); return b }),
			changed(p, func(b pump.Bound) pump.Bound { b.Amount = max(0, b.Amount-r.Intn(5)); return b }, same),
		}
		if len(p.Players) > 1 {
			better = append(better, pump.Plant{Players: p.Players[1:], Regulators: p.Regulators})
		}
		if len(p.Regulators) > 1 {
			better = append(better, pump.Plant{Players: p.Players, Regulators: p.Regulators[1:]})
		}
		for _, q := range better {
			if drop(t, q, n) > drop(t, p, n) || delay(t, q, n) > delay(t, p, n) {
				t.Fatalf("%v is worse than %v, %d ticks", q, p, n)
			}
		}
	}
}

// P4.13: if all amounts are multiplied, so is the drop, and the delay is the same.
func TestMultiplied(t *testing.T) {
	r := newRandom()
	for range 400 {
		p := largePlant(r, 1+r.Intn(30))
		n := r.Intn(pump.MaxRoll + 1)
		factor := r.Intn(100)
		multiply := func(b pump.Bound) pump.Bound { b.Amount *= factor; return b }
		q := changed(p, multiply, multiply)
		if got, want := drop(t, q, n), factor*drop(t, p, n); got != want {
			t.Fatalf("Drop(%v, %d) = %d, want %d", q, n, got, want)
		}
		if factor > 0 && delay(t, q, n) != delay(t, p, n) {
			t.Fatalf("Delay(%v, %d) = %d, want %d", q, n, delay(t, q, n), delay(t, p, n))
		}
	}
}

// withBound returns lists of bounds with one more bound in the first one of them.
func withBound(all [][]pump.Bound, b pump.Bound) [][]pump.Bound {
	return append([][]pump.Bound{append(slices.Clone(all[0]), b)}, all[1:]...)
}

// P4.11 (G1): with one more bound nothing becomes possible that was impossible.
func TestMoreKnowledge(t *testing.T) {
	r := newRandom()
	for range 400 {
		p := largePlant(r, 1+r.Intn(30))
		n := r.Intn(pump.MaxRoll + 1)
		one := pump.Plant{Players: withBound(p.Players, even(r, 30, 20)[0]), Regulators: p.Regulators}
		two := pump.Plant{Players: p.Players, Regulators: withBound(p.Regulators, even(r, 30, 25)[0])}
		for _, q := range []pump.Plant{one, two} {
			if pump.Check(q) == api.OK && (drop(t, q, n) > drop(t, p, n) || delay(t, q, n) > delay(t, p, n)) {
				t.Fatalf("%v is worse than %v, %d ticks", q, p, n)
			}
		}
	}
}

// cloneLists returns a copy of lists.
func cloneLists[T any](l [][]T) [][]T {
	var out [][]T
	for _, x := range l {
		out = append(out, slices.Clone(x))
	}
	return out
}

// everything returns the results of all calls for a plant and a course.
func everything(p pump.Plant, c pump.Course, ticks int) []any {
	var all []any
	add := func(results ...any) { all = append(all, results...) }
	add(pump.Most(p.Players[0], ticks))
	add(pump.Least(p.Players[0], ticks))
	add(pump.Cover(p.Players[0], ticks))
	add(pump.Pack(p.Players[0], ticks))
	add(pump.Row(p, ticks))
	add(pump.Drop(p, ticks))
	add(pump.Delay(p, ticks))
	add(pump.Worst(p, ticks))
	add(pump.Lacks(p, c))
	return all
}

// R4 and P1: arguments are not changed, results share no memory, and the same arguments give the same results.
func TestNothingIsKept(t *testing.T) {
	r := newRandom()
	for range 100 {
		p := largePlant(r, 1+r.Intn(10))
		ticks := 1 + r.Intn(40)
		c := anyCourse(r, p, ticks)
		q := pump.Plant{Players: cloneLists(p.Players), Regulators: cloneLists(p.Regulators)}
		d := pump.Course{Demands: cloneLists(c.Demands), Capacities: cloneLists(c.Capacities)}
		first := everything(p, c, ticks)
		for _, x := range first {
			switch list := x.(type) {
			case []int:
				clear(list)
			case pump.Course:
				for _, l := range slices.Concat(list.Demands, list.Capacities) {
					clear(l)
				}
			}
		}
		if !reflect.DeepEqual(p, q) || !reflect.DeepEqual(c, d) {
			t.Fatalf("%v %v are changed to %v %v", q, d, p, c)
		}
		if second, third := everything(p, c, ticks), everything(q, d, ticks); !reflect.DeepEqual(second, third) {
			t.Fatalf("%v and then %v", second, third)
		}
	}
}

// R4: no two lists of a result share memory, not even beyond their ends.
func TestListsShareNothing(t *testing.T) {
	r := newRandom()
	for range 100 {
		p := largePlant(r, 1+r.Intn(10))
		c, e := pump.Worst(p, 40)
		must(t, e)
		lacks, delays, e := pump.Lacks(p, anyCourse(r, p, 40))
		must(t, e)
		for _, all := range [][][]int{slices.Concat(c.Demands, c.Capacities), {lacks, delays}} {
			for i, l := range all {
				for k := range cap(l) {
					l[:cap(l)][k] = -i
				}
			}
			for i, l := range all {
				if slices.ContainsFunc(l, func(n int) bool { return n != -i }) {
					t.Fatalf("%v: list %d shares its memory", p, i)
				}
			}
		}
	}
}
