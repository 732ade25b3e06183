package edit_test

import (
	"math"
	"math/rand"
	"slices"
	"testing"

	"pianola/api"
	"pianola/edit"
)

// then, undone and mergedOf return the results of calls without errors.
func then(t *testing.T, p, q edit.Patch) edit.Patch {
	t.Helper()
	got, e := edit.Then(p, q)
	if e != api.OK || edit.CheckPatch(got) != api.OK {
		t.Fatalf("Then(%v, %v) = %v, %d", p, q, got, e)
	}
	return got
}

func undone(t *testing.T, p edit.Patch) edit.Patch {
	t.Helper()
	got, e := edit.Undo(p)
	if e != api.OK || edit.CheckPatch(got) != api.OK {
		t.Fatalf("Undo(%v) = %v, %d", p, got, e)
	}
	return got
}

// P2.6: composition is associative, and the patch that changes nothing is neutral.
func TestComposition(t *testing.T) {
	r := newRandom()
	for range 1000 {
		p := randomPatch(r, randomRoll(r, 6, 5), 6, 5, 3)
		q := randomPatch(r, p.To, 6, 5, 3)
		s := randomPatch(r, q.To, 6, 5, 3)
		if a, b := then(t, then(t, p, q), s), then(t, p, then(t, q, s)); !same(a, b) {
			t.Fatalf("%v, %v, %v: %v and %v", p, q, s, a, b)
		}
		if a := then(t, p, identity(p.To)); !same(a, p) {
			t.Fatalf("%v and nothing: %v", p, a)
		}
		if a := then(t, identity(p.From), p); !same(a, p) {
			t.Fatalf("nothing and %v: %v", p, a)
		}
	}
}

// P2.6: the patch of two scripts, one after the other, is the composition of their patches.
func TestCompositionOfScripts(t *testing.T) {
	r := newRandom()
	for range 500 {
		from := randomRoll(r, 5, 4)
		first, p := randomScript(r, from, r.Intn(12), 4)
		second, q := randomScript(r, p.To, r.Intn(12), 4)
		got, _, e := edit.Run(from, append(slices.Clone(first), second...))
		if want := then(t, p, q); e != api.OK || !same(got, want) {
			t.Fatalf("%v: %v and %v make %v, %d, want %v", from, first, second, got, e, want)
		}
	}
}

// P2.7: after a patch and its undo the roll is as before, and notes that were not deleted are the same.
func TestUndoLeadsBack(t *testing.T) {
	r := newRandom()
	for i := range 1000 {
		copies := 3 * (i % 2)
		p := randomPatch(r, randomRoll(r, 6, 5), 6, 5, copies)
		u := undone(t, p)
		back := then(t, p, u)
		if !slices.Equal(back.To, p.From) || !slices.Equal(back.From, p.From) {
			t.Fatalf("%v and its undo: %v", p, back)
		}
		for i, o := range back.Origins {
			want := fresh()
			if slices.Contains(p.Origins, is(i)) {
				want = is(i)
			}
			if o != want {
				t.Fatalf("%v and its undo: %v", p, back)
			}
		}
		if copies > 0 {
			continue
		}
		if again := then(t, back, p); !same(again, p) {
			t.Fatalf("%v, its undo, and again: %v", p, again)
		}
		if again := undone(t, u); !same(again, p) {
			t.Fatalf("the undo of the undo of %v: %v", p, again)
		}
	}
}

// P2.8 (with P2.4): among all scripts on a few places none has fewer steps.
func TestNoScriptIsShorter(t *testing.T) {
	for _, c := range []struct{ notes, places, free int }{{0, 3, 3}, {1, 5, 3}, {2, 6, 4}, {3, 6, 4}, {4, 5, 4}} {
		l := lineFrom(c.notes, c.places)
		state := make([]int, c.places)
		found := 0
		for number, far := range l.far {
			l.state(number, state)
			p, ok := l.patch(state, c.free)
			if !ok {
				continue
			}
			found++
			if far < 0 {
				t.Fatalf("no script makes %v", p)
			}
			if n, e := edit.Fewest(p); n != int(far) || e != api.OK {
				t.Fatalf("Fewest(%v) = %d, %d, want %d", p, n, e, far)
			}
			checkScript(t, p, int(far))
		}
		if found == 0 {
			t.Errorf("%v: no patch", c)
		}
	}
}

// P2.8: the fewest steps are those of the smallest set of notes to go aside, within the bounds that are stated.
func TestFewestOfRandomPatches(t *testing.T) {
	r := newRandom()
	longer := 0
	for i := range 6000 {
		places := 2 + r.Intn(3) // with two keys each, so that most of the places have notes
		p := randomPatch(r, randomRoll(r, 20, places), 30, places, i%10)
		changed, deleted, fresh, copies := counts(p)
		least, want := changed+deleted+fresh+copies, fewestOf(p)
		n, e := edit.Fewest(p)
		if n != want || e != api.OK || n < least || 2*n > 3*least {
			t.Fatalf("Fewest(%v) = %d, %d, want %d", p, n, e, want)
		}
		if (n == 0) != same(p, identity(p.From)) {
			t.Fatalf("Fewest(%v) = %d", p, n)
		}
		if n > least+1 {
			longer++
		}
		checkScript(t, p, want)
	}
	if longer < 100 {
		t.Errorf("only %d patches with several notes that go aside", longer)
	}
}

// P2.8 for large rolls: within the bounds, and made by the script.
func TestFewestOfLargePatches(t *testing.T) {
	r := newRandom()
	for i := range 300 {
		p := randomPatch(r, randomRoll(r, 30, 12), 30, 12, i%10)
		changed, deleted, fresh, copies := counts(p)
		least := changed + deleted + fresh + copies
		n, e := edit.Fewest(p)
		if e != api.OK || n < least || 2*n > 3*least {
			t.Fatalf("Fewest(%v) = %d, %d, at least %d", p, n, e, least)
		}
		checkScript(t, p, n)
	}
}

// P2.9 (with P2.3): the patch of a script says note by note what it does, and nothing else.
func TestPatchesTellScriptsApart(t *testing.T) {
	r := newRandom()
	equal := 0
	for range 2000 {
		from := randomRoll(r, 3, 2)
		first, p := randomScript(r, from, 1+r.Intn(4), 2)
		second, q := randomScript(r, from, 1+r.Intn(4), 2)
		a, b := follow(t, from, first), follow(t, from, second)
		if !same(p, described(from, a)) || !same(q, described(from, b)) {
			t.Fatalf("%v: %v makes %v, %v makes %v", from, first, p, second, q)
		}
		if same(p, q) != slices.Equal(a, b) {
			t.Fatalf("%v: %v makes %v, %v makes %v", from, first, p, second, q)
		}
		if same(p, q) {
			equal++
		}
	}
	if equal < 20 {
		t.Errorf("only %d equal pairs", equal)
	}
}

// clashes reports whether two patches clash, or have too many notes, by the words of the chapter.
func clashes(p, q edit.Patch) bool {
	type end struct {
		note             edit.Note
		deleted, changed bool
		copied           bool
	}
	ends := func(x edit.Patch, i int) end {
		out := end{deleted: true}
		for k, o := range x.Origins {
			if o == is(i) {
				out.note, out.deleted, out.changed = x.To[k], false, x.To[k] != x.From[i]
			}
			out.copied = out.copied || o == copied(i)
		}
		return out
	}
	var all []edit.Note
	for i, n := range p.From {
		a, b := ends(p, i), ends(q, i)
		both := (a.changed || a.deleted) && (b.changed || b.deleted)
		if both && !(a.deleted && b.deleted) && !(a.changed && b.changed && a.note == b.note) {
			return true
		}
		if a.copied && b.deleted || b.copied && a.deleted {
			return true
		}
		switch {
		case a.deleted || b.deleted:
		case a.changed:
			all = append(all, a.note)
		case b.changed:
			all = append(all, b.note)
		default:
			all = append(all, n)
		}
	}
	for _, x := range []edit.Patch{p, q} {
		for k, o := range x.Origins {
			if o.Of < 0 || o.Copy {
				all = append(all, x.To[k])
			}
		}
	}
	slices.SortFunc(all, order)
	return len(slices.CompactFunc(slices.Clone(all), func(a, b edit.Note) bool { return order(a, b) == 0 })) < len(all)
}

// P2.10 (with P2.5): two editors can be taken in any order.
func TestTwoEditors(t *testing.T) {
	r := newRandom()
	merged := 0
	for i := range 4000 {
		from := randomRoll(r, 6, 4)
		p, q := slightPatch(r, from, 4), slightPatch(r, from, 4)
		if i%4 == 0 {
			p, q = randomPatch(r, from, 3, 4, 3), randomPatch(r, from, 3, 4, 3)
		}
		m, e := edit.Merge(p, q)
		n, f := edit.Merge(q, p)
		if e != f || !same(m, n) {
			t.Fatalf("%v and %v: %v, %d and %v, %d", p, q, m, e, n, f)
		}
		if clashes(p, q) {
			if e != api.ErrClash || !isZero(m) {
				t.Fatalf("%v and %v: %v, %d, want ErrClash", p, q, m, e)
			}
			continue
		}
		if e != api.OK || edit.CheckPatch(m) != api.OK {
			t.Fatalf("%v and %v: %v, %d", p, q, m, e)
		}
		merged++
		checkRebase(t, p, q, m)
		checkRebase(t, q, p, m)
	}
	if merged < 500 {
		t.Errorf("only %d pairs were merged", merged)
	}
}

// checkRebase checks that a patch, and then another one that is rebased on it, is the merged patch.
func checkRebase(t *testing.T, p, q, m edit.Patch) {
	t.Helper()
	b, e := edit.Rebase(p, q)
	if e != api.OK || edit.CheckPatch(b) != api.OK {
		t.Fatalf("Rebase(%v, %v) = %v, %d", p, q, b, e)
	}
	if got := then(t, p, b); !same(got, m) {
		t.Fatalf("%v and then %v: %v, want %v", p, b, got, m)
	}
	for k, o := range p.Origins { // what the first editor added is still there
		if (o.Of < 0 || o.Copy) && !slices.Contains(b.Origins, is(k)) {
			t.Fatalf("Rebase(%v, %v) = %v", p, q, b)
		}
	}
	_, _, fresh, copies := counts(b)
	_, _, freshBefore, copiesBefore := counts(q)
	if fresh != freshBefore || copies != copiesBefore {
		t.Fatalf("Rebase(%v, %v) = %v", p, q, b)
	}
}

// P2.10: with the patch that changes nothing, a patch is merged to itself.
func TestMergeWithNothing(t *testing.T) {
	r := newRandom()
	for range 500 {
		p := randomPatch(r, randomRoll(r, 6, 5), 6, 5, 3)
		nothing := identity(p.From)
		m, e := edit.Merge(p, nothing)
		if e != api.OK || !same(m, p) {
			t.Fatalf("Merge(%v, nothing) = %v, %d", p, m, e)
		}
		b, e := edit.Rebase(p, nothing)
		if e != api.OK || !same(b, identity(p.To)) {
			t.Fatalf("Rebase(%v, nothing) = %v, %d", p, b, e)
		}
		b, e = edit.Rebase(nothing, p)
		if e != api.OK || !same(b, p) {
			t.Fatalf("Rebase(nothing, %v) = %v, %d", p, b, e)
		}
	}
}

// P2.11: each note of From is deleted, or is one note of To, and the numbers of notes agree.
func TestEachNoteOnce(t *testing.T) {
	r := newRandom()
	for range 1000 {
		from := randomRoll(r, 6, 4)
		steps, p := randomScript(r, from, r.Intn(15), 4)
		if e := edit.CheckPatch(p); e != api.OK {
			t.Fatalf("%v: %v makes %v, %d", from, steps, p, e)
		}
		want := len(from)
		for _, s := range steps {
			switch s.Kind {
			case edit.Delete:
				want--
			case edit.Insert, edit.Repeat:
				want++
			}
		}
		_, deleted, fresh, copies := counts(p)
		if len(p.To) != want || len(p.To) != len(from)-deleted+fresh+copies {
			t.Fatalf("%v: %v makes %v", from, steps, p)
		}
	}
}

// spoil overwrites all that a patch refers to.
func spoil(p edit.Patch) {
	for i := range p.From {
		p.From[i] = note(-9, -9, -9)
	}
	for i := range p.To {
		p.To[i] = note(-8, -8, -8)
	}
	for i := range p.Origins {
		p.Origins[i] = is(-7)
	}
}

// R4 and P1: arguments stay as they are, results share no memory with anything, and the same call gives the same result.
func TestCallsShareNothing(t *testing.T) {
	r := exampleR()
	p := patch(r, r, copied(1), is(0), fresh())
	q := patch(r, row(1, 2, 3), is(1), copied(0), fresh())
	calls := []func() (edit.Patch, api.Errno){
		func() (edit.Patch, api.Errno) { return edit.Then(p, q) },
		func() (edit.Patch, api.Errno) { return edit.Undo(p) },
		func() (edit.Patch, api.Errno) { return edit.Merge(identity(r), q) },
		func() (edit.Patch, api.Errno) { return edit.Rebase(identity(r), q) },
		func() (edit.Patch, api.Errno) {
			got, _, e := edit.Run(r, script(repeat(0, 40, note(5, 5, 5))))
			return got, e
		},
		func() (edit.Patch, api.Errno) {
			got, _, e := edit.Run(r, nil)
			return got, e
		},
	}
	wantP, wantQ := cloned(p), cloned(q)
	for i, call := range calls {
		first, e := call()
		if e != api.OK {
			t.Fatalf("call %d: %d", i, e)
		}
		want := cloned(first)
		spoil(patch(first.From, nil))
		if !slices.Equal(first.To, want.To) {
			t.Errorf("call %d: two parts of the result share memory", i)
		}
		spoil(first)
		if again, e := call(); e != api.OK || !same(again, want) {
			t.Errorf("call %d: %v, %d, want %v", i, again, e, want)
		}
		if !same(p, wantP) || !same(q, wantQ) {
			t.Fatalf("call %d changed its arguments", i)
		}
	}
	l, _ := edit.Script(p)
	before := slices.Clone(l)
	l[0] = edit.Step{}
	if again, _ := edit.Script(p); !slices.Equal(again, before) || !same(p, wantP) {
		t.Errorf("Script = %v, want %v", again, before)
	}
}

// P1: no call panics, whatever the arguments are, and those that are given back are patches.
func TestAnyArguments(t *testing.T) {
	r := newRandom()
	for range 20000 {
		p, q := anyPatch(r), anyPatch(r)
		if r.Intn(2) == 0 {
			q.From = p.From
		}
		if r.Intn(3) == 0 {
			q.From = p.To
		}
		var steps []edit.Step
		for range r.Intn(5) {
			steps = append(steps, edit.Step{Kind: anyNumber(r), At: anyNumber(r), Key: anyNumber(r), New: anyNote(r)})
		}
		p1, e1 := edit.Then(p, q)
		p2, e2 := edit.Undo(p)
		p3, at, e3 := edit.Run(p.From, steps)
		n, e4 := edit.Fewest(p)
		l, e5 := edit.Script(p)
		p6, e6 := edit.Merge(p, q)
		p7, e7 := edit.Rebase(p, q)
		if at < 0 || at > len(steps) || e4 != e5 || n != len(l) || e2 != e4 || e6 != e7 {
			t.Fatalf("%v, %v, %v", p, q, steps)
		}
		for i, c := range []struct {
			p edit.Patch
			e api.Errno
		}{{p1, e1}, {p2, e2}, {p3, e3}, {p6, e6}, {p7, e7}} {
			if c.e != api.OK && !isZero(c.p) || edit.CheckPatch(c.p) != api.OK {
				t.Fatalf("call %d on %v, %v, %v: %v, %d", i, p, q, steps, c.p, c.e)
			}
		}
	}
}

// anyNumber returns a number that is often small, and sometimes extreme.
func anyNumber(r *rand.Rand) int {
	if r.Intn(200) == 0 {
		return []int{math.MinInt, math.MaxInt, -1, 1001, 1000001}[r.Intn(5)]
	}
	return r.Intn(4)
}

func anyNote(r *rand.Rand) edit.Note {
	return note(anyNumber(r), anyNumber(r), 1+anyNumber(r)&7)
}

func anyRoll(r *rand.Rand) edit.Roll {
	var l edit.Roll
	for range r.Intn(4) {
		l = append(l, anyNote(r))
	}
	if r.Intn(4) > 0 {
		slices.SortFunc(l, func(a, b edit.Note) int {
			if order(a, b) < 0 {
				return -1
			}
			return 1
		})
	}
	return l
}

func anyPatch(r *rand.Rand) edit.Patch {
	p := patch(anyRoll(r), anyRoll(r))
	for range len(p.To) {
		p.Origins = append(p.Origins, edit.Origin{Of: anyNumber(r) - 1, Copy: r.Intn(3) == 0})
	}
	if r.Intn(50) == 0 {
		p.Origins = append(p.Origins, fresh())
	}
	return p
}
