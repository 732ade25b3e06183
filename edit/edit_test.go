package edit_test

import (
	"math"
	"slices"
	"testing"

	"pianola/api"
	"pianola/edit"
)

// note returns a note.
func note(at, key, long int) edit.Note { return edit.Note{At: at, Key: key, Long: long} }

// notes returns a roll.
func notes(l ...edit.Note) edit.Roll { return l }

// exampleR is R of the chapter's examples.
func exampleR() edit.Roll { return notes(note(0, 40, 5), note(10, 42, 5), note(20, 44, 5)) }

// row returns a roll of notes with the key 40 and the length 5.
func row(times ...int) edit.Roll {
	var r edit.Roll
	for _, at := range times {
		r = append(r, note(at, 40, 5))
	}
	return r
}

// fresh is the origin of a new note; is and copied return those of other notes.
func fresh() edit.Origin { return edit.Origin{Of: -1} }

func is(of int) edit.Origin { return edit.Origin{Of: of} }

func copied(of int) edit.Origin { return edit.Origin{Of: of, Copy: true} }

// patch returns a patch.
func patch(from, to edit.Roll, origins ...edit.Origin) edit.Patch {
	return edit.Patch{From: from, To: to, Origins: origins}
}

// same reports whether two patches are equal.
func same(p, q edit.Patch) bool {
	return slices.Equal(p.From, q.From) && slices.Equal(p.To, q.To) && slices.Equal(p.Origins, q.Origins)
}

// isZero reports whether a patch has zero values.
func isZero(p edit.Patch) bool { return p.From == nil && p.To == nil && p.Origins == nil }

// erase, insert, change and repeat return steps.
func erase(at, key int) edit.Step { return edit.Step{Kind: edit.Delete, At: at, Key: key} }

func insert(n edit.Note) edit.Step { return edit.Step{Kind: edit.Insert, New: n} }

func change(at, key int, n edit.Note) edit.Step {
	return edit.Step{Kind: edit.Change, At: at, Key: key, New: n}
}

func repeat(at, key int, n edit.Note) edit.Step {
	return edit.Step{Kind: edit.Repeat, At: at, Key: key, New: n}
}

// script returns a script.
func script(l ...edit.Step) []edit.Step { return l }

// inserts returns a script that inserts so many notes, at the times from 0 on.
func inserts(n int) []edit.Step {
	var l []edit.Step
	for i := range n {
		l = append(l, insert(note(i, 0, 1)))
	}
	return l
}

// rolls are rolls with their errors.
var rolls = []struct {
	name string
	r    edit.Roll
	want api.Errno
}{
	{"none", nil, api.OK},
	{"empty", notes(), api.OK},
	{"ordinary", exampleR(), api.OK},
	{"least and greatest", notes(note(0, 0, 1), note(0, 87, 1000), note(1000000, 0, 1), note(1000000, 87, 1)), api.OK},
	{"31 notes", make(edit.Roll, 31), api.ErrMany},
	{"30 notes out of range", make(edit.Roll, 30), api.ErrRange},
	{"time below 0", notes(note(-1, 0, 1)), api.ErrRange},
	{"time above MaxTime", notes(note(1000001, 0, 1)), api.ErrRange},
	{"key below 0", notes(note(0, -1, 1)), api.ErrRange},
	{"key 88", notes(note(0, 88, 1)), api.ErrRange},
	{"no length", notes(note(0, 0, 0)), api.ErrRange},
	{"length below 0", notes(note(0, 0, -1)), api.ErrRange},
	{"length above MaxLong", notes(note(0, 0, 1001)), api.ErrRange},
	{"extremes", notes(note(math.MinInt, math.MaxInt, math.MinInt)), api.ErrRange},
	{"second is out of range", notes(note(0, 0, 1), note(0, 1, 0)), api.ErrRange},
	{"place twice", notes(note(5, 5, 1), note(5, 5, 2)), api.ErrTwice},
	{"note twice", notes(note(5, 5, 1), note(5, 5, 1)), api.ErrTwice},
	{"range before twice", notes(note(5, 5, 1), note(5, 5, 0)), api.ErrRange},
	{"keys descend", notes(note(5, 5, 1), note(5, 4, 1)), api.ErrOrder},
	{"times descend", notes(note(5, 5, 1), note(4, 9, 1)), api.ErrOrder},
	{"range before order", notes(note(5, 5, 1), note(4, 9, 1001)), api.ErrRange},
	{"place twice, but not in a row", notes(note(5, 5, 1), note(6, 5, 1), note(5, 5, 1)), api.ErrOrder},
	{"first note decides: order", notes(note(5, 5, 1), note(4, 9, 1), note(4, 9, 1), note(-1, 0, 0)), api.ErrOrder},
	{"first note decides: twice", notes(note(5, 5, 1), note(5, 5, 1), note(4, 9, 1), note(-1, 0, 0)), api.ErrTwice},
	{"first note decides: range", notes(note(-1, 0, 0), note(-2, 0, 1)), api.ErrRange},
}

// patches are patches with their errors.
var patches = []struct {
	name string
	p    edit.Patch
	want api.Errno
}{
	{"zero value", edit.Patch{}, api.OK},
	{"ordinary", patch(exampleR(), exampleR(), is(2), fresh(), copied(0)), api.OK},
	{"all deleted", patch(exampleR(), nil), api.OK},
	{"all new", patch(nil, exampleR(), fresh(), fresh(), fresh()), api.OK},
	{"copies of one note, and the note", patch(exampleR(), exampleR(), copied(1), is(1), copied(1)), api.OK},
	{"From before To", patch(row(2, 1), make(edit.Roll, 31)), api.ErrOrder},
	{"To before origins", patch(exampleR(), row(1, 1), is(9)), api.ErrTwice},
	{"too few origins", patch(exampleR(), exampleR(), is(9), is(9)), api.ErrShape},
	{"too many origins", patch(exampleR(), exampleR(), is(9), is(9), is(9), is(9)), api.ErrShape},
	{"no origins", patch(nil, row(1)), api.ErrShape},
	{"origins of nothing", patch(row(1), nil, is(0)), api.ErrShape},
	{"no such note", patch(row(1), row(1), is(1)), api.ErrNone},
	{"no such note to copy", patch(row(1), row(1), copied(1)), api.ErrNone},
	{"origin below -1", patch(row(1), row(1), is(-2)), api.ErrNone},
	{"copy of an origin below -1", patch(row(1), row(1), copied(-2)), api.ErrNone},
	{"extreme origin", patch(row(1), row(1), is(math.MinInt)), api.ErrNone},
	{"other extreme origin", patch(row(1), row(1), is(math.MaxInt)), api.ErrNone},
	{"no notes at all", patch(nil, row(1), is(0)), api.ErrNone},
	{"copy of nothing", patch(row(1), row(1), copied(-1)), api.ErrRule},
	{"note twice", patch(exampleR(), exampleR(), is(1), copied(1), is(1)), api.ErrTwice},
	{"first origin decides: none", patch(exampleR(), exampleR(), is(3), copied(-1), is(3)), api.ErrNone},
	{"first origin decides: rule", patch(exampleR(), exampleR(), is(0), copied(-1), is(3)), api.ErrRule},
	{"first origin decides: twice", patch(exampleR(), exampleR(), is(0), is(0), copied(-1)), api.ErrTwice},
}

// P2.1: Check returns the error that is named first, at the first note that has one.
func TestCheck(t *testing.T) {
	for _, c := range rolls {
		if e := edit.Check(c.r); e != c.want {
			t.Errorf("%s: Check = %d, want %d", c.name, e, c.want)
		}
	}
	var full edit.Roll
	for at := range edit.MaxNotes {
		full = append(full, note(at, 0, 1))
	}
	if e := edit.Check(full); e != api.OK {
		t.Errorf("30 notes: Check = %d", e)
	}
	if e := edit.Check(append(full, note(-1, 0, 0))); e != api.ErrMany {
		t.Errorf("31 notes: Check = %d", e)
	}
}

// P2.1: CheckPatch returns the errors of both rolls and of the origins.
func TestCheckPatch(t *testing.T) {
	for _, c := range patches {
		if e := edit.CheckPatch(c.p); e != c.want {
			t.Errorf("%s: CheckPatch = %d, want %d", c.name, e, c.want)
		}
	}
	for _, c := range rolls {
		if e := edit.CheckPatch(patch(c.r, nil)); e != c.want {
			t.Errorf("%s: CheckPatch with it as From = %d, want %d", c.name, e, c.want)
		}
		if e := edit.CheckPatch(patch(nil, c.r)); c.want != api.OK && e != c.want {
			t.Errorf("%s: CheckPatch with it as To = %d, want %d", c.name, e, c.want)
		}
	}
}

// P2.2, P2.4 and P2.5: all functions of patches return the error of CheckPatch before their own ones, and nothing else.
func TestCheckPatchComesFirst(t *testing.T) {
	other := patch(row(77), row(77, 77))
	for _, c := range patches {
		if c.want == api.OK {
			continue
		}
		p1, e1 := edit.Then(c.p, other)
		p2, e2 := edit.Then(patch(row(77), nil), c.p)
		p3, e3 := edit.Undo(c.p)
		n, e4 := edit.Fewest(c.p)
		l, e5 := edit.Script(c.p)
		p6, e6 := edit.Merge(c.p, other)
		p7, e7 := edit.Merge(patch(row(77), nil), c.p)
		p8, e8 := edit.Rebase(c.p, other)
		p9, e9 := edit.Rebase(patch(row(77), nil), c.p)
		for i, e := range []api.Errno{e1, e2, e3, e4, e5, e6, e7, e8, e9} {
			if e != c.want {
				t.Errorf("%s: call %d returns %d, want %d", c.name, i+1, e, c.want)
			}
		}
		for i, p := range []edit.Patch{p1, p2, p3, p6, p7, p8, p9} {
			if !isZero(p) || n != 0 || l != nil {
				t.Errorf("%s: results together with an error (%d)", c.name, i)
			}
		}
	}
}

// P2.2: compositions.
func TestThen(t *testing.T) {
	r := exampleR()
	moved := notes(note(10, 42, 5), note(20, 44, 5), note(30, 40, 5))
	ended := notes(note(10, 42, 5), note(20, 44, 5), note(50, 1, 1))
	cases := []struct {
		p, q, want edit.Patch
		e          api.Errno
	}{
		{patch(r, moved, is(1), is(2), is(0)), patch(moved, ended, is(0), is(1), copied(0)), patch(r, ended, is(1), is(2), copied(1)), api.OK},
		{patch(row(1, 2), row(3, 4), copied(1), fresh()), patch(row(3, 4), row(1, 2, 3, 4), is(0), copied(0), is(1), copied(1)), patch(row(1, 2), row(1, 2, 3, 4), copied(1), copied(1), fresh(), fresh()), api.OK},
		{patch(row(1, 2), row(3, 4), is(1), is(0)), patch(row(3, 4), row(1, 2, 3, 4), is(0), copied(0), copied(1), fresh()), patch(row(1, 2), row(1, 2, 3, 4), is(1), copied(1), copied(0), fresh()), api.OK},
		{patch(r, nil), patch(nil, r, fresh(), fresh(), fresh()), patch(r, r, fresh(), fresh(), fresh()), api.OK},
		{patch(nil, nil), patch(nil, nil), patch(nil, nil), api.OK},
		{patch(nil, notes()), patch(nil, nil), patch(nil, nil), api.OK},
		{patch(r, row(1), is(0)), patch(row(2), nil), edit.Patch{}, api.ErrShape},
		{patch(r, row(1), is(0)), patch(row(1, 2), nil), edit.Patch{}, api.ErrShape},
		{patch(r, row(1), is(0)), patch(notes(note(1, 40, 6)), nil), edit.Patch{}, api.ErrShape},
		{patch(r, nil), patch(r, nil), edit.Patch{}, api.ErrShape},
	}
	for i, c := range cases {
		if got, e := edit.Then(c.p, c.q); !same(got, c.want) || e != c.e {
			t.Errorf("Then %d = %v, %d, want %v, %d", i, got, e, c.want, c.e)
		}
	}
}

// P2.2: what is undone; copies and new notes are deleted, and notes that were deleted are new.
func TestUndo(t *testing.T) {
	r := row(0, 10, 20)
	cases := []struct{ p, want edit.Patch }{
		{patch(r, row(5, 15), is(2), is(0)), patch(row(5, 15), r, is(1), fresh(), is(0))},
		{patch(r, row(5, 15, 25), copied(2), fresh(), is(2)), patch(row(5, 15, 25), r, fresh(), fresh(), is(2))},
		{patch(r, r, is(0), is(1), is(2)), patch(r, r, is(0), is(1), is(2))},
		{patch(nil, r, fresh(), fresh(), fresh()), patch(r, nil)},
		{patch(r, nil), patch(nil, r, fresh(), fresh(), fresh())},
		{patch(nil, nil), patch(nil, nil)},
	}
	for i, c := range cases {
		if got, e := edit.Undo(c.p); !same(got, c.want) || e != api.OK {
			t.Errorf("Undo %d = %v, %d, want %v", i, got, e, c.want)
		}
	}
}

// P2.3: patches of scripts.
func TestRun(t *testing.T) {
	r := exampleR()
	cases := []struct {
		r     edit.Roll
		steps []edit.Step
		want  edit.Patch
	}{
		{r, nil, patch(r, r, is(0), is(1), is(2))},
		{nil, nil, edit.Patch{}},
		{r, script(change(0, 40, note(30, 40, 5))), patch(r, notes(note(10, 42, 5), note(20, 44, 5), note(30, 40, 5)), is(1), is(2), is(0))},
		{r, script(change(0, 40, note(0, 40, 9))), patch(r, notes(note(0, 40, 9), note(10, 42, 5), note(20, 44, 5)), is(0), is(1), is(2))},
		{r, script(change(0, 40, note(0, 40, 5))), patch(r, r, is(0), is(1), is(2))},
		{r, script(erase(10, 42), insert(note(10, 42, 5))), patch(r, r, is(0), fresh(), is(2))},
		{row(1), script(repeat(1, 40, note(2, 40, 7)), erase(1, 40), repeat(2, 40, note(3, 40, 8)), erase(2, 40)), patch(row(1), notes(note(3, 40, 8)), copied(0))},
		{row(1), script(repeat(1, 40, note(2, 40, 5)), change(2, 40, note(3, 40, 5)), change(1, 40, note(2, 40, 5))), patch(row(1), row(2, 3), is(0), copied(0))},
		{nil, script(insert(note(5, 5, 5)), repeat(5, 5, note(6, 6, 6)), change(5, 5, note(7, 7, 7))), patch(nil, notes(note(6, 6, 6), note(7, 7, 7)), fresh(), fresh())},
		{row(1, 2), script(change(1, 40, note(9, 9, 9)), change(2, 40, note(1, 40, 5)), change(9, 9, note(2, 40, 5))), patch(row(1, 2), row(1, 2), is(1), is(0))},
		{nil, script(insert(note(0, 0, 1)), change(0, 0, note(1000000, 87, 1000)), insert(note(0, 0, 1)), erase(0, 0)), patch(nil, notes(note(1000000, 87, 1000)), fresh())},
	}
	for i, c := range cases {
		got, at, e := edit.Run(c.r, c.steps)
		if !same(got, c.want) || at != len(c.steps) || e != api.OK {
			t.Errorf("Run %d = %v, %d, %d, want %v", i, got, at, e, c.want)
		}
	}
}

// P2.3: the errors of a step, in their order, and the index of the first step that has one.
func TestRunErrors(t *testing.T) {
	r, bad := exampleR(), note(-1, 0, 0)
	full := inserts(60)
	cases := []struct {
		r     edit.Roll
		steps []edit.Step
		at    int
		e     api.Errno
	}{
		{r, script(edit.Step{}), 0, api.ErrKind},
		{r, script(erase(10, 42), edit.Step{Kind: 5, At: -1, New: bad}), 1, api.ErrKind},
		{r, script(edit.Step{Kind: -1}), 0, api.ErrKind},
		{r, script(edit.Step{Kind: math.MinInt}), 0, api.ErrKind},
		{r, script(edit.Step{Kind: math.MaxInt}), 0, api.ErrKind},
		{r, script(edit.Step{Kind: edit.Insert, At: 1, New: bad}), 0, api.ErrShape},
		{r, script(edit.Step{Kind: edit.Insert, Key: -1, New: bad}), 0, api.ErrShape},
		{r, script(edit.Step{Kind: edit.Insert, At: 10, Key: 42, New: note(1, 1, 1)}), 0, api.ErrShape},
		{r, script(edit.Step{Kind: edit.Delete, At: 99, New: note(1, 0, 0)}), 0, api.ErrShape},
		{r, script(edit.Step{Kind: edit.Delete, At: 99, New: note(0, 1, 0)}), 0, api.ErrShape},
		{r, script(edit.Step{Kind: edit.Delete, At: 0, Key: 40, New: note(0, 0, 5)}), 0, api.ErrShape},
		{r, script(erase(10, 42), erase(10, 42)), 1, api.ErrNone},
		{r, script(erase(0, 41)), 0, api.ErrNone},
		{r, script(erase(math.MinInt, math.MaxInt)), 0, api.ErrNone},
		{r, script(change(0, 41, bad)), 0, api.ErrNone},
		{r, script(change(0, 40, note(1, 1, 1)), change(0, 40, note(1, 1, 1))), 1, api.ErrNone},
		{r, script(repeat(1, 40, bad)), 0, api.ErrNone},
		{r, script(repeat(1, 40, note(10, 42, 1))), 0, api.ErrNone},
		{r, script(insert(bad)), 0, api.ErrRange},
		{r, script(insert(note(10, 42, 0))), 0, api.ErrRange},
		{r, script(change(0, 40, note(10, 42, 1001))), 0, api.ErrRange},
		{r, script(change(0, 40, note(1000001, 0, 1))), 0, api.ErrRange},
		{r, script(repeat(0, 40, note(0, 88, 1))), 0, api.ErrRange},
		{r, script(repeat(0, 40, note(10, 42, 0))), 0, api.ErrRange},
		{r, script(insert(note(10, 42, 5))), 0, api.ErrTwice},
		{r, script(change(0, 40, note(10, 42, 5))), 0, api.ErrTwice},
		{r, script(repeat(0, 40, note(10, 42, 9))), 0, api.ErrTwice},
		{r, script(repeat(0, 40, note(0, 40, 9))), 0, api.ErrTwice},
		{nil, inserts(61), 60, api.ErrFull},
		{nil, append(slices.Clone(full), repeat(7, 0, note(7, 7, 7))), 60, api.ErrFull},
		{nil, append(slices.Clone(full), insert(note(7, 0, 7))), 60, api.ErrTwice},
		{nil, append(slices.Clone(full), insert(note(7, 0, 0))), 60, api.ErrRange},
		{nil, append(slices.Clone(full), erase(7, 1)), 60, api.ErrNone},
		{nil, append(slices.Clone(full), change(7, 0, note(7, 7, 7))), 61, api.ErrMany},
		{nil, append(slices.Clone(full), erase(7, 0), insert(note(7, 7, 7))), 62, api.ErrMany},
		{nil, full, 60, api.ErrMany},
		{nil, inserts(31), 31, api.ErrMany},
		{r, inserts(28), 28, api.ErrMany},
	}
	for i, c := range cases {
		if got, at, e := edit.Run(c.r, c.steps); !isZero(got) || at != c.at || e != c.e {
			t.Errorf("Run %d = %v, %d, %d, want %d, %d", i, got, at, e, c.at, c.e)
		}
	}
}

// P2.3: errors of the roll and of the number of steps, and the limits of what is held.
func TestRunLimits(t *testing.T) {
	many := slices.Repeat(script(edit.Step{}), 201)
	for _, c := range rolls {
		want := c.want
		if want == api.OK {
			want = api.ErrMany
		}
		if got, at, e := edit.Run(c.r, many); !isZero(got) || at != 0 || e != want {
			t.Errorf("%s: Run = %v, %d, %d, want %d", c.name, got, at, e, want)
		}
	}
	if _, at, e := edit.Run(row(1), slices.Repeat(script(change(1, 40, note(1, 40, 5))), 200)); at != 200 || e != api.OK {
		t.Errorf("200 steps: Run = %d, %d", at, e)
	}
	if p, at, e := edit.Run(nil, inserts(30)); len(p.To) != 30 || at != 30 || e != api.OK {
		t.Errorf("30 notes: Run = %v, %d, %d", p, at, e)
	}
	back := inserts(60)
	for i := range 30 {
		back = append(back, erase(2*i, 0))
	}
	if p, at, e := edit.Run(nil, back); len(p.To) != 30 || at != 90 || e != api.OK {
		t.Errorf("60 notes, and 30 in the end: Run = %v, %d, %d", p, at, e)
	}
}

// P2.4: the fewest steps, and scripts with so many.
func TestFewest(t *testing.T) {
	r := exampleR()
	cases := []struct {
		p    edit.Patch
		want int
	}{
		{patch(r, r, is(0), is(1), is(2)), 0},
		{patch(nil, nil), 0},
		{patch(r, r, is(1), is(0), is(2)), 3},
		{patch(r, r, is(1), is(2), is(0)), 4},
		{patch(r, r, copied(0), is(1), is(2)), 3},
		{patch(r, r, fresh(), is(1), is(2)), 2},
		{patch(r, r, fresh(), fresh(), fresh()), 6},
		{patch(r, notes(note(0, 40, 5), note(5, 50, 5), note(10, 42, 5)), copied(0), copied(0), is(1)), 4},
		{patch(r, nil), 3},
		{patch(nil, r, fresh(), fresh(), fresh()), 3},
		{patch(row(1), notes(note(1, 40, 6)), is(0)), 1},
		{patch(row(1), notes(note(1, 40, 6)), copied(0)), 3},
		{patch(row(1, 2, 3), row(2, 3, 4), is(0), is(1), is(2)), 3},
		{patch(row(2, 3, 4), row(1, 2, 3), is(0), is(1), is(2)), 3},
		{patch(row(1, 2), row(1, 2), is(1), copied(0)), 4},
		{patch(row(1, 2), row(1, 2, 3), is(1), copied(0), copied(0)), 4},
		{patch(row(1, 2), row(1, 2, 3), is(1), copied(0), copied(1)), 5},
		{patch(row(1, 2, 3), row(1, 2, 3), copied(1), copied(0), copied(1)), 6},
		{patch(row(1, 2, 3), row(1, 2, 3), copied(1), copied(0), copied(0)), 6},
		{patch(row(1, 2, 3), row(1, 2, 3), copied(2), copied(0), copied(1)), 7},
		{patch(row(1, 2, 3), row(1, 2, 3), copied(1), copied(0), copied(2)), 8},
		{patch(row(1, 2, 3, 4), row(1, 2, 3, 4), is(1), is(0), is(3), is(2)), 6},
		{patch(row(1, 2, 3, 4), row(1, 2, 3, 4), is(1), copied(3), copied(0), copied(2)), 8},
		{patch(notes(note(0, 0, 1), note(0, 1, 2)), notes(note(0, 0, 2), note(0, 1, 1)), is(1), is(0)), 3},
	}
	for i, c := range cases {
		n, e := edit.Fewest(c.p)
		if n != c.want || e != api.OK {
			t.Errorf("Fewest %d = %d, %d, want %d", i, n, e, c.want)
		}
		checkScript(t, c.p, c.want)
	}
}

// checkScript checks that Script returns a script with so many steps that makes a patch.
func checkScript(t *testing.T, p edit.Patch, steps int) {
	t.Helper()
	l, e := edit.Script(p)
	if e != api.OK || len(l) != steps {
		t.Fatalf("Script of %v = %v, %d, want %d steps", p, l, e, steps)
	}
	if q, at, e := edit.Run(p.From, l); !same(p, q) || at != steps || e != api.OK {
		t.Fatalf("%v makes %v, %d, %d, want %v", l, q, at, e, p)
	}
	if q := described(p.From, follow(t, p.From, l)); !same(p, q) {
		t.Fatalf("%v makes %v, want %v", l, q, p)
	}
}

// P2.4 at the limits: thirty notes, all of which wait for another one, at the places that a script would use first.
func TestFewestOfFullRolls(t *testing.T) {
	var from, others edit.Roll
	for key := range edit.MaxNotes {
		from = append(from, note(0, key, 1))
		others = append(others, note(0, key+edit.MaxNotes, 1))
	}
	var pairs, ring, own, crossed, fresh30, copies []edit.Origin
	for i := range edit.MaxNotes {
		pairs = append(pairs, is(i^1))
		ring = append(ring, is((i+1)%edit.MaxNotes))
		own = append(own, copied(i))
		crossed = append(crossed, copied(i^1))
		fresh30 = append(fresh30, fresh())
		copies = append(copies, copied(29))
	}
	cases := []struct {
		p    edit.Patch
		want int
	}{
		{patch(from, from, pairs...), 45},
		{patch(from, from, ring...), 31},
		{patch(from, from, own...), 90},
		{patch(from, from, crossed...), 75},
		{patch(from, from, fresh30...), 60},
		{patch(from, others, fresh30...), 60},
		{patch(from, from, copies...), 60},
		{patch(from, others, own...), 60},
		{patch(from, others, copies...), 60},
	}
	for i, c := range cases {
		if n, e := edit.Fewest(c.p); n != c.want || e != api.OK {
			t.Errorf("Fewest %d = %d, %d, want %d", i, n, e, c.want)
		}
		checkScript(t, c.p, c.want)
	}
}

// merges are pairs of patches, with what is merged and rebased.
func merges() []struct {
	p, q      edit.Patch
	to        edit.Roll
	from, now []edit.Origin
} {
	r := exampleR()
	right := notes(note(10, 42, 5), note(20, 44, 5), note(30, 40, 5))
	longer := notes(note(0, 40, 5), note(10, 42, 9), note(20, 44, 5))
	one := row(1)
	return []struct {
		p, q      edit.Patch
		to        edit.Roll
		from, now []edit.Origin
	}{
		{patch(r, right, is(1), is(2), is(0)), patch(r, r[:2], is(0), is(1)), notes(right[0], right[2]), []edit.Origin{is(1), is(0)}, []edit.Origin{is(0), is(2)}},
		{patch(r, r, is(0), is(1), is(2)), patch(r, nil), nil, nil, nil},
		{patch(r, r[:2], is(0), is(1)), patch(r, r[:1], is(0)), r[:1], []edit.Origin{is(0)}, []edit.Origin{is(0)}},
		{patch(r, longer, is(0), is(1), is(2)), patch(r, longer, is(0), is(1), is(2)), longer, []edit.Origin{is(0), is(1), is(2)}, []edit.Origin{is(0), is(1), is(2)}},
		{patch(one, row(1, 2), is(0), copied(0)), patch(one, row(1, 3), is(0), copied(0)), row(1, 2, 3), []edit.Origin{is(0), copied(0), copied(0)}, []edit.Origin{is(0), is(1), copied(0)}},
		{patch(one, row(5), is(0)), patch(one, row(1, 2, 3), is(0), copied(0), fresh()), row(2, 3, 5), []edit.Origin{copied(0), fresh(), is(0)}, []edit.Origin{copied(0), fresh(), is(0)}},
		{patch(one, row(0, 5), fresh(), is(0)), patch(one, row(1, 2), is(0), copied(0)), row(0, 2, 5), []edit.Origin{fresh(), copied(0), is(0)}, []edit.Origin{is(0), copied(1), is(1)}},
		{patch(one, row(5), is(0)), patch(one, row(5), is(0)), row(5), []edit.Origin{is(0)}, []edit.Origin{is(0)}},
		{patch(one, row(5), copied(0)), patch(one, one, is(0)), row(5), []edit.Origin{copied(0)}, []edit.Origin{is(0)}},
		{patch(row(1, 2), row(1, 2), is(1), is(0)), patch(row(1, 2), row(1, 2, 3), is(0), is(1), copied(0)), row(1, 2, 3), []edit.Origin{is(1), is(0), copied(0)}, []edit.Origin{is(0), is(1), copied(1)}},
		{patch(nil, nil), patch(nil, nil), nil, nil, nil},
	}
}

// P2.5: what is merged, in both orders, and rebased.
func TestMerge(t *testing.T) {
	for i, c := range merges() {
		want := patch(c.p.From, c.to, c.from...)
		if got, e := edit.Merge(c.p, c.q); !same(got, want) || e != api.OK {
			t.Errorf("Merge %d = %v, %d, want %v", i, got, e, want)
		}
		if got, e := edit.Merge(c.q, c.p); !same(got, want) || e != api.OK {
			t.Errorf("Merge %d, the other way round = %v, %d, want %v", i, got, e, want)
		}
		want = patch(c.p.To, c.to, c.now...)
		if got, e := edit.Rebase(c.p, c.q); !same(got, want) || e != api.OK {
			t.Errorf("Rebase %d = %v, %d, want %v", i, got, e, want)
		}
	}
}

// P2.5: editors that clash, and the other errors.
func TestMergeErrors(t *testing.T) {
	r, one := exampleR(), row(1)
	run := func(steps ...edit.Step) edit.Patch {
		p, _, e := edit.Run(r, steps)
		if e != api.OK {
			t.Fatalf("Run of %v: %d", steps, e)
		}
		return p
	}
	var news, more edit.Roll
	var origins []edit.Origin
	for i := range 16 {
		news, more, origins = append(news, note(2*i, 0, 1)), append(more, note(2*i+1, 0, 1)), append(origins, fresh())
	}
	cases := []struct {
		p, q edit.Patch
		want api.Errno
	}{
		{run(change(0, 40, note(30, 40, 5))), run(erase(0, 40)), api.ErrClash},
		{run(change(0, 40, note(30, 40, 5))), run(change(0, 40, note(31, 40, 5))), api.ErrClash},
		{run(change(0, 40, note(0, 40, 6))), run(change(0, 40, note(0, 40, 7))), api.ErrClash},
		{run(insert(note(5, 5, 5))), run(change(0, 40, note(5, 5, 1))), api.ErrClash},
		{run(insert(note(5, 5, 5))), run(insert(note(5, 5, 5))), api.ErrClash},
		{run(insert(note(5, 5, 5))), run(repeat(0, 40, note(5, 5, 1))), api.ErrClash},
		{run(change(10, 42, note(5, 5, 5))), run(change(0, 40, note(5, 5, 5))), api.ErrClash},
		{run(repeat(0, 40, note(5, 5, 5))), run(erase(0, 40)), api.ErrClash},
		{run(repeat(0, 40, note(5, 5, 5)), erase(0, 40)), run(erase(0, 40)), api.ErrClash},
		{run(erase(0, 40), insert(note(0, 40, 5))), run(erase(0, 40), insert(note(0, 40, 5))), api.ErrClash},
		{patch(one, nil), patch(row(2), nil), api.ErrShape},
		{patch(one, nil), patch(row(1, 2), nil), api.ErrShape},
		{patch(one, nil), patch(notes(note(1, 40, 6)), row(1), is(0)), api.ErrShape},
		{patch(nil, news, origins...), patch(nil, more[:15], origins[:15]...), api.ErrMany},
		{patch(nil, news, origins...), patch(nil, news, origins...), api.ErrClash},
	}
	for i, c := range cases {
		for _, turned := range []bool{false, true} {
			p, q := c.p, c.q
			if turned {
				p, q = q, p
			}
			if got, e := edit.Merge(p, q); !isZero(got) || e != c.want {
				t.Errorf("Merge %d = %v, %d, want %d", i, got, e, c.want)
			}
			if got, e := edit.Rebase(p, q); !isZero(got) || e != c.want {
				t.Errorf("Rebase %d = %v, %d, want %d", i, got, e, c.want)
			}
		}
	}
	if got, e := edit.Merge(patch(nil, news, origins...), patch(nil, more[:14], origins[:14]...)); len(got.To) != 30 || e != api.OK {
		t.Errorf("Merge = %v, %d, want 30 notes", got, e)
	}
}

// The chapter's limits and kinds.
func TestLimits(t *testing.T) {
	if edit.MaxNotes != 30 || edit.MaxHeld != 60 || edit.MaxSteps != 200 || edit.MaxLong != 1000 {
		t.Error("a limit is not as stated")
	}
	if edit.Delete != 1 || edit.Insert != 2 || edit.Change != 3 || edit.Repeat != 4 {
		t.Error("a kind is not as stated")
	}
}
