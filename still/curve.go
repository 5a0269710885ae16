package still

import "wormtub/api"

// strengths returns the span that each strength is within.
func strengths() span { return span{0, api.MaxStrength} }

// validCurve tells whether a curve goes from no alcohol to nothing else, and its vapour
// neither falls nor is weaker than the liquid.
func validCurve(c api.Curve) bool {
	count := len(c.Liquid)
	if count < 2 || count > api.MaxCurve || len(c.Vapour) != count {
		return false
	}
	if c.Liquid[0] != 0 || c.Liquid[count-1] != api.MaxStrength || c.Vapour[0].Lo != 0 {
		return false
	}
	for i, v := range c.Vapour {
		if !strengths().covers(v) || v.Lo < c.Liquid[i] || i > 0 && !rises(c, i) {
			return false
		}
	}
	return true
}

// rises tells whether a curve rises, as it has to, to the liquid with an index.
func rises(c api.Curve, i int) bool {
	was, is := c.Vapour[i-1], c.Vapour[i]
	return c.Liquid[i-1] < c.Liquid[i] && was.Lo <= is.Lo && was.Hi <= is.Hi
}

// line tells how strong the vapour of a liquid is at least, or at most.
type line func(liquid int) int

// lines are the two lines of a valid curve: the one through the Los, rounded down, and
// the one through the His, rounded up.
type lines struct{ least, most line }

// linesOf returns the lines of a curve.
func linesOf(c api.Curve) lines {
	return lines{
		least: through(c, func(s api.Span) int { return s.Lo }, down),
		most:  through(c, func(s api.Span) int { return s.Hi }, up),
	}
}

// through returns the line through one end of each vapour.
func through(c api.Curve, end func(api.Span) int, divide func(a, b int) int) line {
	return func(liquid int) int {
		i := 1
		for c.Liquid[i] < liquid {
			i++
		}
		from, to := end(c.Vapour[i-1]), end(c.Vapour[i])
		return from + divide((to-from)*(liquid-c.Liquid[i-1]), c.Liquid[i]-c.Liquid[i-1])
	}
}

// vapour returns how strong the vapour of strengths is.
func (l lines) vapour(strength span) span {
	return span{l.least(strength.Lo), l.most(strength.Hi)}
}
