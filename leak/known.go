package leak

// known is what is known of a net and two of its places, a and b, where the places that are not connected with a are left out.
type known struct {
	trees int            // the trees
	cuts  int            // the forests that separate a and b
	sides [MaxPlaces]int // those of them that connect a place with a
}

// study is a net with what is known of it.
type study struct {
	Net
	known
}

// balance returns the matrix by which pressures become what flows out of the places. The pressure of b is its own, and so is that of a place that is left out.
func (n Net) balance(a, b int) matrix {
	var m matrix
	near := n.near(a)
	for place := range m {
		if place == b || !near[place] {
			m[place] = only(place)
			continue
		}
		for other, leak := range n.ends(place) {
			m[place][place] += leak
			m[place][other] -= leak
		}
	}
	return m
}

// between returns what is known of a net and two of its places. The determinants count forests, so that nothing has to be divided.
func (n Net) between(a, b int) study {
	m := n.balance(a, b)
	s := study{Net: n}
	s.trees = m.determinant()
	for place := range n.Places {
		s.sides[place] = m.with(a, only(place)).determinant()
	}
	s.cuts = s.sides[a]
	return s
}

// whole returns the whole, which is 0 if a and b are not connected: then there is no tree.
func (s study) whole() fraction {
	return over(s.trees, s.cuts)
}

// pressures returns the pressures, with the smallest numbers.
func (s study) pressures() (tops []int, under int) {
	common := s.cuts
	for _, side := range s.sides {
		common = divisor(common, side)
	}
	for place := range s.Places {
		tops = append(tops, s.sides[place]/common)
	}
	return tops, s.cuts / common
}
