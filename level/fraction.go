package level

import "pianola/api"

// fraction is a fraction with a Den above 0.
type fraction api.Ratio

// less reports whether a fraction is less than another one.
func (f fraction) less(g fraction) bool {
	return f.Num*g.Den < g.Num*f.Den
}

// minus returns a fraction less another one.
func (f fraction) minus(g fraction) fraction {
	return fraction{Num: f.Num*g.Den - g.Num*f.Den, Den: f.Den * g.Den}
}

// lowest returns a fraction in lowest terms.
func (f fraction) lowest() api.Ratio {
	common, rest := f.Den, max(f.Num, -f.Num)
	for rest != 0 {
		common, rest = rest, common%rest
	}
	return api.Ratio{Num: f.Num / common, Den: f.Den / common}
}
