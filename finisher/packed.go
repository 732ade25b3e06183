package finisher

import (
	"pianola/api"
	"pianola/edit"
)

// pack returns a roll as bytes.
func pack(r edit.Roll) string {
	packed := packNumber(nil, len(r))
	at := 0
	for _, n := range r {
		packed = packNumber(packed, n.At-at)
		packed = packNumber(packed, n.Key)
		packed = packNumber(packed, n.Long)
		at = n.At
	}
	sum := sumOf(packed)
	return string(append(packed, sum))
}

// packNumber appends a packed number.
func packNumber(packed []byte, n int) []byte {
	for ; n >= 128; n /= 128 {
		packed = append(packed, byte(n%128+128))
	}
	return append(packed, byte(n))
}

// sumOf returns the byte that follows packed bytes at the end.
func sumOf(packed []byte) byte {
	sum := 0
	for _, c := range packed {
		sum += int(c)
	}
	return byte(sum % 251)
}

// unpack returns the roll of bytes, or raises their error.
func unpack(packed string) edit.Roll {
	place := 0
	next := func() byte {
		raiseIf(place == len(packed), api.ErrTorn)
		place++
		return packed[place-1]
	}
	r := unpackNotes(next)
	before := packed[:place]
	last := next()
	e := edit.Check(r)
	raiseIf(e != api.OK, e)
	raiseIf(last != sumOf([]byte(before)), api.ErrSum)
	raiseIf(place < len(packed), api.ErrLong)
	return r
}

// unpackNotes reads the number of notes, and the notes.
func unpackNotes(next func() byte) edit.Roll {
	notes := unpackNumber(next)
	raiseIf(notes > edit.MaxNotes, api.ErrMany)
	r := make(edit.Roll, notes)
	at := 0
	for i := range r {
		at += unpackNumber(next)
		key := unpackNumber(next)
		long := unpackNumber(next)
		r[i] = edit.Note{At: at, Key: key, Long: long}
	}
	return r
}

// unpackNumber reads a packed number.
func unpackNumber(next func() byte) int {
	n := 0
	for seven := range 4 {
		c := next()
		n += int(c%128) << (7 * seven)
		if c < 128 {
			raiseIf(c == 0 && seven > 0, api.ErrForm)
			return n
		}
	}
	panic(api.ErrForm)
}
