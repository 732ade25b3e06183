package edit

import (
	"maps"
	"slices"

	"pianola/api"
)

// board is the notes that are there between two steps, by their places.
type board map[place]traced

// boardOf returns the notes of a roll before the first step.
func boardOf(r Roll) board {
	b := board{}
	for i, n := range r {
		b[placeOf(n)] = traced{note: n, origin: Origin{Of: i}}
	}
	return b
}

// notes returns the notes, in any order.
func (b board) notes() []traced {
	return slices.Collect(maps.Values(b))
}

// has reports whether a note is at a place.
func (b board) has(at place) bool {
	_, found := b[at]
	return found
}

// run runs a step, or returns its error and changes nothing.
func (b board) run(s Step) api.Errno {
	runKind := runnerOf(s.Kind)
	if runKind == nil {
		return api.ErrKind
	}
	return runKind(b, s)
}

// runnerOf returns what runs the steps of a kind, or nil if there is no such kind.
func runnerOf(kind int) func(board, Step) api.Errno {
	switch kind {
	case Delete:
		return board.erase
	case Insert:
		return board.insert
	case Change:
		return board.change
	case Repeat:
		return board.repeat
	}
	return nil
}

// placeOfStep returns the place that a step names.
func placeOfStep(s Step) place {
	return place{at: s.At, key: s.Key}
}

func (b board) erase(s Step) api.Errno {
	if s.New != (Note{}) {
		return api.ErrShape
	}
	at := placeOfStep(s)
	if !b.has(at) {
		return api.ErrNone
	}
	delete(b, at)
	return api.OK
}

func (b board) insert(s Step) api.Errno {
	if placeOfStep(s) != (place{}) {
		return api.ErrShape
	}
	return b.add(traced{note: s.New, origin: Origin{Of: -1}})
}

func (b board) change(s Step) api.Errno {
	at, to := placeOfStep(s), placeOf(s.New)
	old, found := b[at]
	switch {
	case !found:
		return api.ErrNone
	case !inRange(s.New):
		return api.ErrRange
	case to != at && b.has(to):
		return api.ErrTwice
	}
	delete(b, at)
	b[to] = traced{note: s.New, origin: old.origin}
	return api.OK
}

func (b board) repeat(s Step) api.Errno {
	source, found := b[placeOfStep(s)]
	if !found {
		return api.ErrNone
	}
	return b.add(traced{note: s.New, origin: copyOf(source.origin)})
}

// add puts one more note on the board, or returns the error of a step that does.
func (b board) add(t traced) api.Errno {
	at := placeOf(t.note)
	switch {
	case !inRange(t.note):
		return api.ErrRange
	case b.has(at):
		return api.ErrTwice
	case len(b) >= MaxHeld:
		return api.ErrFull
	}
	b[at] = t
	return api.OK
}
