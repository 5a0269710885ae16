package strength

import "wormtub/api"

// Mix returns the amount and the strength of a mixture that shrinks by at most
// shrink ten-thousandths.
func Mix(l []api.Part, shrink int) (api.Part, api.Errno) {
	if len(l) > api.MaxParts {
		return api.Part{}, api.ErrLong
	}
	for _, p := range l {
		if !validPart(p) {
			return api.Part{}, api.ErrArg
		}
	}
	if shrink < 0 || shrink > api.MaxShrink {
		return api.Part{}, api.ErrRange
	}
	amount, alcohol := sums(l)
	if amount.Hi > api.MaxAmount {
		return api.Part{}, api.ErrRefuse
	}
	if amount.Lo == 0 {
		return api.Part{}, api.ErrNone
	}
	return mixture(amount, alcohol, shrink), api.OK
}

// sums adds up the amounts of parts, and their pure alcohol.
func sums(l []api.Part) (amount, alcohol api.Span) {
	for _, p := range l {
		a := pure(p)
		amount = api.Span{Lo: amount.Lo + p.Amount.Lo, Hi: amount.Hi + p.Amount.Hi}
		alcohol = api.Span{Lo: alcohol.Lo + a.Lo, Hi: alcohol.Hi + a.Hi}
	}
	return amount, alcohol
}

// mixture returns what becomes of an amount, with its pure alcohol, that shrinks.
// The strength is a part of the exact least amount, not of the rounded one, which
// may be 0.
func mixture(amount, alcohol api.Span, shrink int) api.Part {
	left := amount.Lo * (api.Whole - shrink)
	strongest := partUp(alcohol.Hi*api.Whole, api.MaxStrength, left)
	return api.Part{
		Amount: api.Span{Lo: left / api.Whole, Hi: amount.Hi},
		Strength: api.Span{
			Lo: partDown(alcohol.Lo, api.MaxStrength, amount.Hi),
			Hi: min(strongest, api.MaxStrength),
		},
	}
}

// pure returns the pure alcohol of a valid part.
func pure(p api.Part) api.Span {
	return api.Span{
		Lo: partDown(p.Amount.Lo, p.Strength.Lo, api.MaxStrength),
		Hi: partUp(p.Amount.Hi, p.Strength.Hi, api.MaxStrength),
	}
}

// Water returns the greatest amount of water with which the part surely has at
// least the strength target.
func Water(p api.Part, target int) (int, api.Errno) {
	if !validPart(p) {
		return 0, api.ErrArg
	}
	if target < 1 || target > api.MaxStrength {
		return 0, api.ErrRange
	}
	spare := p.Strength.Lo - target
	if spare < 0 {
		return 0, api.ErrRefuse
	}
	// The least amount of the weakest spirit takes the least water.
	return min(partDown(p.Amount.Lo, spare, target), api.MaxAmount-p.Amount.Hi), api.OK
}
