package stream

import "wormtub/api"

// within tells whether a span is valid, and has numbers from least to most only.
func within(s api.Span, least, most int) bool {
	return least <= s.Lo && s.Lo <= s.Hi && s.Hi <= most
}

// validWater tells whether what is known of a stream is within the limits.
func validWater(w api.Water) bool {
	return within(w.Flow, 1, api.MaxFlow) && within(w.Warm, 0, api.MaxWarm)
}

// fraction is num / den, from 0 to 1.
type fraction struct{ num, den int }

// between returns the number that is this fraction of the way off from one to another.
func (x fraction) between(from, to int, divide func(a, b int) int) int {
	return divide(from*(x.den-x.num)+to*x.num, x.den)
}

// toward returns what is known of a warmth that has gone at least a little, and at most
// much, of its way to another one.
func toward(warm, other api.Span, little, much fraction) api.Span {
	// Whether more of the way is colder depends on which of the two is colder: each end
	// is at one of the fractions.
	return api.Span{
		Lo: min(little.between(warm.Lo, other.Lo, down), much.between(warm.Lo, other.Lo, down)),
		Hi: max(little.between(warm.Hi, other.Hi, up), much.between(warm.Hi, other.Hi, up)),
	}
}

// down returns a / b, rounded down, for an a that is not below 0, and a b above it.
func down(a, b int) int { return a / b }

// up returns a / b, rounded up, likewise.
func up(a, b int) int { return (a + b - 1) / b }
