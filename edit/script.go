package edit

import (
	"iter"
	"slices"
)

// task is something that each script of a patch has to do: a step of a kind, on a note of From (-1 for an insertion), for a note of To (-1 for a deletion).
type task struct {
	kind int
	of   int
	to   int
}

// maker makes a patch step by step.
//
// A script has at least one step for each task. It needs other steps only where notes wait for each other: a note that is changed cannot go to a place before the note there has left, and one that is deleted cannot leave before one of its copies has a place. At most one note waits for each place; so when nothing can be done any more, the notes that are left wait in rings, each one for just one other. One note of each ring has to go aside, and then all of the ring can go on.
type maker struct {
	patch  Patch
	fates  []fate
	now    board
	at     []place       // where each note of From is
	spares map[int]place // for notes of From that have been repeated: where one of their copies will remain
	tasks  []task
	steps  []Step
}

// makerOf returns a maker that has done nothing yet.
func makerOf(p Patch) *maker {
	m := &maker{
		patch:  p,
		fates:  fates(p),
		now:    boardOf(p.From),
		at:     converted(p.From, placeOf),
		spares: map[int]place{},
	}
	for i, f := range m.fates {
		switch {
		case f.deleted():
			m.tasks = append(m.tasks, task{kind: Delete, of: i, to: -1})
		case f.edited:
			m.tasks = append(m.tasks, task{kind: Change, of: i, to: f.to})
		}
	}
	for k, o := range p.Origins {
		switch {
		case o.Copy:
			m.tasks = append(m.tasks, task{kind: Repeat, of: o.Of, to: k})
		case o.Of < 0:
			m.tasks = append(m.tasks, task{kind: Insert, of: -1, to: k})
		}
	}
	return m
}

// work does all tasks.
func (m *maker) work() {
	m.doReady()
	for of := range m.leaving() {
		m.putAside(of)
		m.doReady()
	}
}

// doReady does tasks until none is ready.
func (m *maker) doReady() {
	ready := m.readiness()
	for {
		next := slices.IndexFunc(m.tasks, ready)
		if next < 0 {
			return
		}
		t := m.tasks[next]
		m.tasks = slices.Delete(m.tasks, next, next+1)
		m.do(t)
	}
}

// leaving yields the notes of From that have yet to leave their places when their turn comes: each of them can let others go.
func (m *maker) leaving() iter.Seq[int] {
	return func(yield func(int) bool) {
		for i := range m.patch.From {
			leaves := func(t task) bool { return t.of == i && t.kind != Repeat }
			if slices.ContainsFunc(m.tasks, leaves) && !yield(i) {
				return
			}
		}
	}
}

// readiness returns a function that reports whether a task can be done after the steps so far.
func (m *maker) readiness() func(task) bool {
	return func(t task) bool {
		if t.kind == Delete {
			_, copied := m.spares[t.of]
			return copied || len(m.fates[t.of].copies) == 0
		}
		to := placeOf(m.patch.To[t.to])
		return !m.now.has(to) || t.kind == Change && m.at[t.of] == to
	}
}

// do does a task that is ready.
func (m *maker) do(t task) {
	switch t.kind {
	case Delete:
		m.step(Delete, m.at[t.of], Note{})
	case Insert:
		m.step(Insert, place{}, m.patch.To[t.to])
	case Change:
		m.change(t.of, m.patch.To[t.to])
	case Repeat:
		source, copied := m.spares[t.of]
		if !copied {
			source = m.at[t.of]
		}
		n := m.patch.To[t.to]
		m.step(Repeat, source, n)
		m.spares[t.of] = placeOf(n)
	}
}

// change makes a note of From another one.
func (m *maker) change(of int, n Note) {
	m.step(Change, m.at[of], n)
	m.at[of] = placeOf(n)
}

// step adds a step to the script.
func (m *maker) step(kind int, at place, n Note) {
	s := Step{Kind: kind, At: at.at, Key: at.key, New: n}
	m.now.run(s)
	m.steps = append(m.steps, s)
}

// putAside changes a note of From so that its place is free. The note goes to a place that no note has; nor will any have it in the end, because when no task is ready, all places of To are taken. There are more keys than notes.
func (m *maker) putAside(of int) {
	var aside place
	for m.now.has(aside) {
		aside.key++
	}
	m.change(of, Note{At: aside.at, Key: aside.key, Long: m.patch.From[of].Long})
}
