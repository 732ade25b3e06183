package edit_test

import (
	"math/bits"
	"math/rand"
	"slices"
	"testing"

	"pianola/api"
	"pianola/edit"
)

// The reference follows the chapter's definitions word by word, and tries everything.

// person is a note on its way through a script: the note of From that it is, or whose copy it is, or -1.
type person struct {
	note   edit.Note
	of     int
	itself bool
}

// follow runs a script that has no errors, and returns the notes in the end in the order of their places.
func follow(t *testing.T, r edit.Roll, steps []edit.Step) []person {
	t.Helper()
	var held []person
	for i, n := range r {
		held = append(held, person{note: n, of: i, itself: true})
	}
	for _, s := range steps {
		at := slices.IndexFunc(held, func(p person) bool { return p.note.At == s.At && p.note.Key == s.Key })
		if at < 0 && s.Kind != edit.Insert {
			t.Fatalf("%v: no note for %v", r, s)
		}
		switch s.Kind {
		case edit.Delete:
			held = slices.Delete(held, at, at+1)
		case edit.Insert:
			held = append(held, person{note: s.New, of: -1})
		case edit.Change:
			held[at].note = s.New
		case edit.Repeat:
			held = append(held, person{note: s.New, of: held[at].of})
		}
	}
	slices.SortFunc(held, func(a, b person) int { return order(a.note, b.note) })
	return held
}

// order compares the places of two notes.
func order(a, b edit.Note) int {
	if a.At != b.At {
		return a.At - b.At
	}
	return a.Key - b.Key
}

// described returns the patch from a roll to notes that were followed.
func described(r edit.Roll, held []person) edit.Patch {
	p := edit.Patch{From: r}
	for _, one := range held {
		p.To = append(p.To, one.note)
		p.Origins = append(p.Origins, edit.Origin{Of: one.of, Copy: one.of >= 0 && !one.itself})
	}
	return p
}

// counts returns how many notes a patch has that are changed, deleted, new or copies.
func counts(p edit.Patch) (changed, deleted, fresh, copies int) {
	deleted = len(p.From)
	for k, o := range p.Origins {
		switch {
		case o.Of < 0:
			fresh++
		case o.Copy:
			copies++
		default:
			deleted--
			if p.To[k] != p.From[o.Of] {
				changed++
			}
		}
	}
	return
}

// line is the distances of all states of a few places from one state: for each state the fewest steps that lead to it. A state has for each place a digit: 0 nothing, 1 a new note, 2 + i the note i of From, 2 + notes + i a copy of it.
type line struct {
	places int
	notes  int
	digits int
	far    []int8
}

// lineFrom returns the distances from the state in which the first places have the notes of From, by going through all scripts.
func lineFrom(notes, places int) line {
	l := line{places: places, notes: notes, digits: 2 + 2*notes}
	size := 1
	for range places {
		size *= l.digits
	}
	l.far = slices.Repeat([]int8{-1}, size)
	state := make([]int, places)
	for i := range notes {
		state[i] = 2 + i
	}
	l.far[l.number(state)] = 0
	for queue := []int{l.number(state)}; len(queue) > 0; queue = queue[1:] {
		l.state(queue[0], state)
		l.next(state, func(number int) {
			if l.far[number] < 0 {
				l.far[number] = l.far[queue[0]] + 1
				queue = append(queue, number)
			}
		})
	}
	return l
}

// number returns the number of a state.
func (l line) number(state []int) int {
	number := 0
	for i := len(state) - 1; i >= 0; i-- {
		number = number*l.digits + state[i]
	}
	return number
}

// state writes down the state with a number.
func (l line) state(number int, state []int) {
	for i := range state {
		state[i] = number % l.digits
		number /= l.digits
	}
}

// repeated returns the digit of a copy of a digit.
func (l line) repeated(digit int) int {
	if digit >= 2 && digit < 2+l.notes {
		return digit + l.notes
	}
	return digit
}

// next visits all states that one step makes of a state.
func (l line) next(state []int, visit func(number int)) {
	try := func(at, old, to, digit int) {
		was, been := state[at], state[to]
		state[at] = old
		state[to] = digit
		visit(l.number(state))
		state[to] = been
		state[at] = was
	}
	for to, been := range state {
		if been != 0 {
			try(to, 0, to, 0)
			continue
		}
		try(to, 0, to, 1)
		for at, digit := range state {
			if digit != 0 {
				try(at, 0, to, digit)
				try(at, digit, to, l.repeated(digit))
			}
		}
	}
}

// patch returns the patch from the first state to another one, if it is one and leaves the places from free on without notes.
func (l line) patch(state []int, free int) (edit.Patch, bool) {
	var p edit.Patch
	for i := range l.notes {
		p.From = append(p.From, note(10*i, 40, 5))
	}
	used := map[int]bool{}
	for i, digit := range state {
		if digit == 0 {
			continue
		}
		if i >= free || used[digit] {
			return p, false
		}
		p.To = append(p.To, note(10*i, 40, 5))
		switch {
		case digit == 1:
			p.Origins = append(p.Origins, edit.Origin{Of: -1})
		case digit < 2+l.notes:
			used[digit] = true
			p.Origins = append(p.Origins, edit.Origin{Of: digit - 2})
		default:
			p.Origins = append(p.Origins, edit.Origin{Of: digit - 2 - l.notes, Copy: true})
		}
	}
	return p, true
}

// fewestOf returns the fewest steps for a patch of few notes: one for each note that is changed, deleted, new or a copy, and one for each note of the smallest set that lets all others go once it has gone aside.
func fewestOf(p edit.Patch) int {
	changed, deleted, fresh, copies := counts(p)
	aside := len(p.From)
	for set := range 1 << len(p.From) {
		if n := bits.OnesCount(uint(set)); n < aside && allGo(p, set) {
			aside = n
		}
	}
	return changed + deleted + fresh + copies + aside
}

// allGo reports whether all notes of From that have to leave their places can do so, one after the other, once those of a set have gone aside.
func allGo(p edit.Patch, set int) bool {
	gone := make([]bool, len(p.From))
	for i := range gone {
		gone[i] = set>>i&1 == 1
	}
	free := func(n edit.Note) bool {
		i := slices.IndexFunc(p.From, func(m edit.Note) bool { return order(m, n) == 0 })
		return i < 0 || gone[i]
	}
	for range p.From {
		for i, n := range p.From {
			gone[i] = gone[i] || goes(p, i, n, free)
		}
	}
	return !slices.Contains(gone, false)
}

// goes reports whether a note of From is where it belongs, or can leave.
func goes(p edit.Patch, i int, n edit.Note, free func(edit.Note) bool) bool {
	copied, room := false, false
	for k, o := range p.Origins {
		if o.Of != i {
			continue
		}
		if !o.Copy {
			return free(p.To[k]) || order(p.To[k], n) == 0
		}
		copied = true
		room = room || free(p.To[k])
	}
	return !copied || room
}

// newRandom returns the numbers that all runs of the tests share.
func newRandom() *rand.Rand { return rand.New(rand.NewSource(7)) }

// randomNote returns a note at one of a few places.
func randomNote(r *rand.Rand, places int) edit.Note {
	return note(r.Intn(places), 40+r.Intn(2), 1+r.Intn(2))
}

// randomRoll returns a roll with at most so many notes, and fewer if there are few places.
func randomRoll(r *rand.Rand, notes, places int) edit.Roll {
	var l edit.Roll
	for range r.Intn(notes + 1) {
		l = append(l, randomNote(r, places))
	}
	slices.SortFunc(l, order)
	return slices.CompactFunc(l, func(a, b edit.Note) bool { return order(a, b) == 0 })
}

// randomPatch returns a patch from a roll in which copies are as frequent as stated, of ten.
func randomPatch(r *rand.Rand, from edit.Roll, notes, places, copies int) edit.Patch {
	p := edit.Patch{From: from, To: randomRoll(r, notes, places)}
	rest := r.Perm(len(from))
	for k := range p.To {
		o := edit.Origin{Of: -1}
		switch {
		case len(from) > 0 && r.Intn(10) < copies:
			o = edit.Origin{Of: r.Intn(len(from)), Copy: true}
		case len(rest) > 0 && r.Intn(5) > 0:
			o.Of, rest = rest[0], rest[1:]
			if r.Intn(3) == 0 && order(p.To[k], from[o.Of]) == 0 {
				p.To[k] = from[o.Of] // unchanged
			}
		}
		p.Origins = append(p.Origins, o)
	}
	return p
}

// slightPatch returns a patch that leaves most notes as they are, so that it seldom clashes with another one.
func slightPatch(r *rand.Rand, from edit.Roll, places int) edit.Patch {
	_, p := randomScript(r, from, 1+r.Intn(3), places)
	return p
}

// randomScript returns a script without errors of at most so many steps, and its patch.
func randomScript(r *rand.Rand, from edit.Roll, steps, places int) ([]edit.Step, edit.Patch) {
	var l []edit.Step
	p, _, _ := edit.Run(from, nil)
	for range steps {
		s := edit.Step{Kind: 1 + r.Intn(4)}
		if s.Kind != edit.Delete {
			s.New = randomNote(r, places)
		}
		if s.Kind != edit.Insert && len(p.To) > 0 {
			n := p.To[r.Intn(len(p.To))]
			s.At, s.Key = n.At, n.Key
		}
		if q, _, e := edit.Run(from, append(slices.Clone(l), s)); e == api.OK {
			l, p = append(l, s), q
		}
	}
	return l, p
}

// cloned returns a patch that shares no memory with another one.
func cloned(p edit.Patch) edit.Patch {
	return edit.Patch{From: slices.Clone(p.From), To: slices.Clone(p.To), Origins: slices.Clone(p.Origins)}
}

// identity returns the patch that changes nothing.
func identity(r edit.Roll) edit.Patch {
	p := edit.Patch{From: r, To: r}
	for i := range r {
		p.Origins = append(p.Origins, edit.Origin{Of: i})
	}
	return p
}
