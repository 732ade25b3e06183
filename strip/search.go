package strip

// search returns a function that tells the needed strips of tallies, and keeps what it has found.
// It ends: each answer to a split takes tubes away, or mistakes that they allow.
func search() func(tally) int {
	known := map[tally]int{}
	var needed func(tally) int
	needed = func(t tally) int {
		if n, ok := known[t]; ok {
			return n
		}
		n := t.bound()
		for n > 0 {
			if _, ok := t.partLeaving(n-1, needed); ok {
				break
			}
			n++
		}
		known[t] = n
		return n
	}
	return needed
}

// partLeaving returns the tubes of a strip after which at most so many strips are needed, whatever the answer is, and reports whether there is one.
func (t tally) partLeaving(most int, needed func(tally) int) (part tally, ok bool) {
	for part := range t.splits() {
		yes, no := t.after(part), t.after(t.without(part))
		if yes.fits(most) && no.fits(most) && needed(yes) <= most && needed(no) <= most {
			return part, true
		}
	}
	return tally{}, false
}

// needed returns the needed strips.
func (t tally) needed() int {
	return search()(t)
}

// goodPart returns the tubes of a good strip, and the needed strips that are left at most after it.
func (t tally) goodPart() (part tally, left int) {
	needed := search()
	left = needed(t) - 1 // no strip leaves fewer after both answers
	part, _ = t.partLeaving(left, needed)
	return part, left
}

// play returns the needed strips that are left at most after a strip with the tubes of a part, and reports whether it is a good one.
func (t tally) play(part tally) (left int, good bool) {
	needed := search()
	left = max(needed(t.after(part)), needed(t.after(t.without(part))))
	return left, left < needed(t)
}

// mostTubes returns for how many tubes without a mistake so many strips suffice.
func mostTubes(lies, strips int) int {
	needed := search()
	var t tally
	t[lies] = MaxTubes
	for needed(t) > strips {
		t[lies]--
	}
	return t[lies]
}
