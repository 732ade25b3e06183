package edit

import (
	"slices"

	"pianola/api"
)

// meeting is a note of a merged patch.
type meeting struct {
	note  Note
	from  Origin // in the roll that both editors had
	first Origin // in what the first editor left
}

// inFrom returns the note with its origin in the roll that both editors had.
func (n meeting) inFrom() traced {
	return traced{note: n.note, origin: n.from}
}

// inFirst returns the note with its origin in what the first editor left.
func (n meeting) inFirst() traced {
	return traced{note: n.note, origin: n.first}
}

// merged returns the notes of the merged patch, in any order, or the error of Merge.
func merged(p, q Patch) ([]meeting, api.Errno) {
	if e := checkBoth(p, q); e != api.OK {
		return nil, e
	}
	if !slices.Equal(q.From, p.From) {
		return nil, api.ErrShape
	}
	ours, theirs := fates(p), fates(q)
	for i := range ours {
		if clash(ours[i], theirs[i]) {
			return nil, api.ErrClash
		}
	}
	notes := append(kept(ours, theirs), added(p, q, ours)...)
	if crowded(notes) {
		return nil, api.ErrClash
	}
	if len(notes) > MaxNotes {
		return nil, api.ErrMany
	}
	return notes, api.OK
}

// clash reports whether two editors clash for a note of From.
func clash(a, b fate) bool {
	if a.edited && b.edited && a.note != b.note {
		return true
	}
	return len(a.copies) > 0 && b.deleted() || len(b.copies) > 0 && a.deleted()
}

// kept returns the notes of From that neither editor deletes.
func kept(ours, theirs []fate) []meeting {
	var notes []meeting
	for i, f := range ours {
		if f.deleted() || theirs[i].deleted() {
			continue
		}
		n := f.note
		if !f.edited {
			n = theirs[i].note
		}
		notes = append(notes, meeting{note: n, from: Origin{Of: i}, first: Origin{Of: f.to}})
	}
	return notes
}

// added returns the notes that are new or copies, of the first editor and of the second one.
func added(p, q Patch, ours []fate) []meeting {
	var notes []meeting
	for k, o := range p.Origins {
		if isAdded(o) {
			notes = append(notes, meeting{note: p.To[k], from: o, first: Origin{Of: k}})
		}
	}
	for k, o := range q.Origins {
		if !isAdded(o) {
			continue
		}
		first := o
		if o.Copy {
			first.Of = ours[o.Of].to
		}
		notes = append(notes, meeting{note: q.To[k], from: o, first: first})
	}
	return notes
}

// isAdded reports whether the origin is that of a note that is new or a copy.
func isAdded(o Origin) bool {
	return o.Of < 0 || o.Copy
}

// crowded reports whether two notes are at one place.
func crowded(notes []meeting) bool {
	taken := map[place]bool{}
	for _, n := range notes {
		taken[placeOf(n.note)] = true
	}
	return len(taken) < len(notes)
}
