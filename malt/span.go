package malt

import "wormtub/api"

// known is a span with at least one number in it: the true one is among them.
type known struct{ api.Span }

// know returns the span from lo to hi. If this is none, nothing can be true: it panics,
// and what was to lead there cannot be.
func know(lo, hi int) known {
	if lo > hi {
		panic("no number can be true")
	}
	return known{api.Span{Lo: lo, Hi: hi}}
}

// plus returns what the sum of two numbers is known to be.
func (k known) plus(other known) known {
	return know(k.Lo+other.Lo, k.Hi+other.Hi)
}

// share returns the ends of what is known of some parts of a number, of as many as
// make a whole. There may be no whole number between them.
func (k known) share(parts known, whole int) (lo, hi int) {
	return up(parts.Lo*k.Lo, whole), down(parts.Hi*k.Hi, whole)
}

// atMost returns what is known of a number that is not greater than most.
func (k known) atMost(most int) known {
	return know(k.Lo, min(k.Hi, most))
}

// meets returns what is known of a number that is from lo to hi, too.
func (k known) meets(lo, hi int) known {
	return know(max(k.Lo, lo), min(k.Hi, hi))
}

// less returns what is left of a number, from 0 on, when another one is taken away.
func (k known) less(other known) known {
	return know(max(k.Lo-other.Hi, 0), k.Hi-other.Lo)
}

// within tells whether a span is valid, and from 0 to most.
func within(s api.Span, most int) bool {
	return 0 <= s.Lo && s.Lo <= s.Hi && s.Hi <= most
}

// down returns a / b, rounded down, for an a that is not below 0, and a b above it.
func down(a, b int) int { return a / b }

// up returns a / b, rounded up, likewise.
func up(a, b int) int { return (a + b - 1) / b }
