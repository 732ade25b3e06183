package edit

import "pianola/api"

// checkOrigins returns the error of origins in a roll with so many notes.
func checkOrigins(origins []Origin, notes int) api.Errno {
	used := map[int]bool{}
	for _, o := range origins {
		switch {
		case o.Of < -1 || o.Of >= notes:
			return api.ErrNone
		case o.Of == -1 && o.Copy:
			return api.ErrRule
		case o.Of == -1 || o.Copy:
			continue
		case used[o.Of]:
			return api.ErrTwice
		}
		used[o.Of] = true
	}
	return api.OK
}

// checkBoth returns the error of the first of two patches that has one.
func checkBoth(p, q Patch) api.Errno {
	if e := CheckPatch(p); e != api.OK {
		return e
	}
	return CheckPatch(q)
}

// fate is what a patch does to a note of From.
type fate struct {
	note   Note  // as it is in To; zero values if it is deleted
	to     int   // its index in To, or -1 if it is deleted
	edited bool  // whether it is changed or deleted
	copies []int // the indexes of its copies in To
}

// deleted reports whether the note is no note of To.
func (f fate) deleted() bool {
	return f.to < 0
}

// fates returns the fate of each note of From.
func fates(p Patch) []fate {
	list := make([]fate, len(p.From))
	for i := range list {
		list[i] = fate{to: -1, edited: true}
	}
	for k, o := range p.Origins {
		if o.Of < 0 {
			continue
		}
		f := &list[o.Of]
		if o.Copy {
			f.copies = append(f.copies, k)
			continue
		}
		f.note, f.to, f.edited = p.To[k], k, p.To[k] != p.From[o.Of]
	}
	return list
}
