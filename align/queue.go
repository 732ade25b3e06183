package align

// queue is things that wait for their turn.
type queue[T any] struct {
	waiting []T
}

// add lets a thing wait behind all others.
func (q *queue[T]) add(thing T) {
	q.waiting = append(q.waiting, thing)
}

// next takes the thing that waits longest, and reports whether there is one.
func (q *queue[T]) next() (thing T, ok bool) {
	if len(q.waiting) == 0 {
		return thing, false
	}
	thing = q.waiting[0]
	q.waiting = q.waiting[1:]
	return thing, true
}
