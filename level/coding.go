package level

import "slices"

// coding is a list of codes without an error.
type coding []Code

// width returns how far the ends of a code's Want are apart.
func (c Code) width() int {
	return c.Want.Hi - c.Want.Lo
}

// proved returns the error that a proof proves.
func (c coding) proved(p proof) fraction {
	if p == oneCode(p[0]) {
		return fraction{Num: c[p[0]].width(), Den: 2}
	}
	left, middle, right := c[p[0]], c[p[1]], c[p[2]]
	before, after := middle.Set-left.Set, right.Set-middle.Set
	whole := before + after
	above := middle.Want.Hi*whole - left.Want.Lo*after - right.Want.Lo*before
	below := left.Want.Hi*after + right.Want.Hi*before - middle.Want.Lo*whole
	return fraction{Num: max(above, below), Den: 2 * whole}
}

// bestProof returns a proof of the best error.
func (c coding) bestProof() proof {
	return greatest(proofs(len(c)), func(a, b proof) bool {
		return c.proved(a).less(c.proved(b))
	})
}

// bestError returns the best error.
func (c coding) bestError() fraction {
	return c.proved(c.bestProof())
}

// errorOf returns the error of a line.
func (c coding) errorOf(line Line) fraction {
	// All distances have the same Den, so that they are compared without greater products.
	den := line.Gain.Den * line.Offset.Den
	distance := func(code Code) int {
		loud := line.Gain.Num*line.Offset.Den*code.Set + line.Offset.Num*line.Gain.Den
		return max(loud-code.Want.Lo*den, code.Want.Hi*den-loud)
	}
	farthest := greatest(slices.Values(c), func(a, b Code) bool { return distance(a) < distance(b) })
	return fraction{Num: distance(farthest), Den: den}
}

// gains returns the least and the greatest gain of the lines whose error is at most a bound, and whether there are such lines. Of a single code, which any gain suits, both are 0.
//
// From one code to another one the loudness rises by so much at most, and at least by so much: this bounds the gain. If a gain suits each two codes, each one has a span of offsets that suit it, and each two spans meet; so all of them do.
func (c coding) gains(bound fraction) (least, most fraction, ok bool) {
	least, most, ok = fraction{Num: 0, Den: 1}, fraction{Num: 0, Den: 1}, true
pairs:
	for j, right := range c {
		if ok = right.width()*bound.Den <= 2*bound.Num; !ok {
			break
		}
		for _, left := range c[:j] {
			den := (right.Set - left.Set) * bound.Den
			low := fraction{Num: (right.Want.Hi-left.Want.Lo)*bound.Den - 2*bound.Num, Den: den}
			high := fraction{Num: (right.Want.Lo-left.Want.Hi)*bound.Den + 2*bound.Num, Den: den}
			if j == 1 || least.less(low) {
				least = low
			}
			if j == 1 || high.less(most) {
				most = high
			}
			if ok = !most.less(least); !ok {
				break pairs
			}
		}
	}
	return least, most, ok
}

// bestLine returns a line with the best error, which is given.
//
// If three codes prove the error, it has only one line, with the gain from an end of the first one to an end of the last one. Otherwise one code proves it, and twice the error is a number. So the Den of the gain is at most a difference of Sets, and that of the offset at most twice as much.
func (c coding) bestLine(worst fraction) Line {
	least, _, _ := c.gains(worst)
	gain := least.lowest()
	above := func(code Code) fraction { // what the offset and the error have to be together, at least
		return fraction{Num: code.Want.Hi*gain.Den - gain.Num*code.Set, Den: gain.Den}
	}
	tight := greatest(slices.Values(c), func(a, b Code) bool { return above(a).less(above(b)) })
	return Line{Gain: gain, Offset: above(tight).minus(worst).lowest()}
}
