package strength

import (
	"iter"
	"math/bits"
)

// fraction is num / den, exactly. Its den is above 0.
type fraction struct{ num, den int }

// floor returns the fraction rounded down.
func (f fraction) floor() int {
	n := f.num / f.den
	if f.num%f.den < 0 {
		n--
	}
	return n
}

// ceil returns the fraction rounded up.
func (f fraction) ceil() int {
	n := f.floor()
	if n*f.den < f.num {
		n++
	}
	return n
}

// less tells whether f is less than g. Whole numbers are compared first, as products
// with what is left of the numerators fit where those with the numerators may not.
func (f fraction) less(g fraction) bool {
	a, b := f.floor(), g.floor()
	if a != b {
		return a < b
	}
	return (f.num-a*f.den)*g.den < (g.num-b*g.den)*f.den
}

// more tells whether f is greater than g.
func (f fraction) more(g fraction) bool { return g.less(f) }

// foremost returns, of one or more fractions, the one that no other one is ahead of.
func foremost(l iter.Seq[fraction], ahead func(f, g fraction) bool) fraction {
	var first fraction
	for f := range l {
		if first.den == 0 || ahead(f, first) {
			first = f
		}
	}
	return first
}

// partDown returns a b / c, rounded down, for a and b that are not below 0. The
// product may be too great for an int, the result may not.
func partDown(a, b, c int) int {
	n, _ := divide(a, b, c)
	return n
}

// partUp returns a b / c, rounded up, likewise.
func partUp(a, b, c int) int {
	n, rest := divide(a, b, c)
	if rest != 0 {
		n++
	}
	return n
}

// divide returns a b / c, rounded down, and what is left.
func divide(a, b, c int) (quotient, rest int) {
	high, low := bits.Mul64(uint64(a), uint64(b))
	q, r := bits.Div64(high, low, uint64(c))
	return int(q), int(r)
}
