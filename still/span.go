package still

import "wormtub/api"

// span is what is known of a number that is computed: each Lo comes from the ends that
// make it least, each Hi from those that make it greatest.
type span api.Span

// covers tells whether a span is valid, and has no number that s does not have.
func (s span) covers(other api.Span) bool {
	return s.Lo <= other.Lo && other.Lo <= other.Hi && other.Hi <= s.Hi
}

// up returns a / b, rounded up, for an a that is not below 0, and a b above it.
func up(a, b int) int { return (a + b - 1) / b }

// down returns a / b, rounded down, for an a that is not below 0, and a b above it.
func down(a, b int) int { return a / b }
