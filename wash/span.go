package wash

import "wormtub/api"

// thousand is how many thousandths a whole has.
const thousand = 1000

// span is what is known of a number that is computed: each Lo comes from the ends that
// make it least, each Hi from those that make it greatest.
type span api.Span

// exactly returns the span of a number that is known.
func exactly(n int) span { return span{n, n} }

// covers tells whether a span is valid, and has no number that s does not have.
func (s span) covers(other api.Span) bool {
	return s.Lo <= other.Lo && other.Lo <= other.Hi && other.Hi <= s.Hi
}

// plus returns what the sum of two numbers can be.
func (s span) plus(other span) span { return span{s.Lo + other.Lo, s.Hi + other.Hi} }

// less returns what is left of a number when another one is taken away.
func (s span) less(other span) span { return span{s.Lo - other.Hi, s.Hi - other.Lo} }

// times returns what the product of two numbers can be, neither of them below 0.
func (s span) times(other span) span { return span{s.Lo * other.Lo, s.Hi * other.Hi} }

// by returns what an n-th of a number can be that is not below 0.
func (s span) by(n int) span { return span{s.Lo / n, up(s.Hi, n)} }

// up returns a / b, rounded up, for an a that is not below 0, and a b above it.
func up(a, b int) int { return (a + b - 1) / b }

// all tells whether each span of a list is as it has to be.
func all(l []api.Span, good func(api.Span) bool) bool {
	for _, s := range l {
		if !good(s) {
			return false
		}
	}
	return true
}
