package still

import "wormtub/api"

// Plates returns how many plates a column needs.
func Plates(c api.Curve, from, to int) (perhaps, surely int, e api.Errno) {
	if !validCurve(c) {
		return 0, 0, api.ErrArg
	}
	if !strengths().covers(api.Span{Lo: from, Hi: from}) || !strengths().covers(api.Span{Lo: to, Hi: to}) {
		return 0, 0, api.ErrRange
	}
	l := linesOf(c)
	perhaps, surely = plates(l.most, from, to), plates(l.least, from, to)
	if perhaps == never {
		return 0, 0, api.ErrLimit
	}
	return perhaps, surely, api.OK
}

// plates returns the least number of plates behind which a liquid is strong enough, if
// its strength becomes that of its vapour on each.
func plates(vapour line, from, to int) int {
	strong := from
	for n := range api.MaxPlates + 1 {
		if strong >= to {
			return n
		}
		strong = vapour(strong)
	}
	return never
}
