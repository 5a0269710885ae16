// Package strength measures spirit: it goes from what an instrument shows at a
// temperature to what is there at 20 degrees, and back. Whatever is true within
// the spans that are given is within the spans that are returned.
package strength

import "wormtub/api"

// Check returns ErrArg unless the table is valid.
func Check(t api.Table) api.Errno {
	if !validTable(t) {
		return api.ErrArg
	}
	return api.OK
}

// Shown returns the least and the greatest number that is shown by spirit of
// these strengths at these temperatures.
func Shown(t api.Table, strength, temp api.Span) (api.Span, api.Errno) {
	if !validTable(t) {
		return api.Span{}, api.ErrArg
	}
	if !fits(strength, t.Strengths) || !fits(temp, t.Temps) {
		return api.Span{}, api.ErrRange
	}
	least, greatest := extremes(t, t.Shown, strength, temp)
	return api.Span{Lo: least.floor(), Hi: greatest.ceil()}, api.OK
}

// Strength returns the least and the greatest strength of the table that shows
// a number of shown at one of these temperatures.
func Strength(t api.Table, shown, temp api.Span) (api.Span, api.Errno) {
	if !validTable(t) || !validSpan(shown) {
		return api.Span{}, api.ErrArg
	}
	if !fits(temp, t.Temps) {
		return api.Span{}, api.ErrRange
	}
	least, greatest := extremes(t, t.Shown, whole(t.Strengths), temp)
	if greatest.less(fraction{shown.Lo, 1}) || (fraction{shown.Hi, 1}).less(least) {
		return api.Span{}, api.ErrNone
	}
	// What is shown rises with the strength, so the weakest spirit that can show
	// anything of shown shows its Lo, and the strongest one its Hi.
	weakest := foremost(showing(t, shown.Lo, temp), fraction.less)
	strongest := foremost(showing(t, shown.Hi, temp), fraction.more)
	return api.Span{Lo: weakest.floor(), Hi: strongest.ceil()}, api.OK
}

// Volume returns, at 20 degrees, an amount that was measured at one of these
// temperatures.
func Volume(t api.Table, amount, strength, temp api.Span) (api.Span, api.Errno) {
	if !validTable(t) || !within(amount, 0, api.MaxAmount) {
		return api.Span{}, api.ErrArg
	}
	if !fits(strength, t.Strengths) || !fits(temp, t.Temps) {
		return api.Span{}, api.ErrRange
	}
	least, greatest := extremes(t, t.Room, strength, temp)
	v := api.Span{
		Lo: partDown(amount.Lo*api.Litre, greatest.den, greatest.num),
		Hi: partUp(amount.Hi*api.Litre, least.den, least.num),
	}
	if v.Hi > api.MaxAmount {
		return api.Span{}, api.ErrRefuse
	}
	return v, api.OK
}

// Pure returns the pure alcohol of an amount of these strengths.
func Pure(amount, strength api.Span) (api.Span, api.Errno) {
	p := api.Part{Amount: amount, Strength: strength}
	if !validPart(p) {
		return api.Span{}, api.ErrArg
	}
	return pure(p), api.OK
}

// Measured returns volume, strength and pure alcohol at 20 degrees of an amount
// that was measured, and in which an instrument showed something, at one of these
// temperatures.
func Measured(t api.Table, amount, shown, temp api.Span) (volume, strength, pure api.Span, e api.Errno) {
	// The amount comes ahead of all errors of Strength, which does not see it.
	if !within(amount, 0, api.MaxAmount) {
		return api.Span{}, api.Span{}, api.Span{}, api.ErrArg
	}
	strength, e = Strength(t, shown, temp)
	if e != api.OK {
		return api.Span{}, api.Span{}, api.Span{}, e
	}
	volume, e = Volume(t, amount, strength, temp)
	if e != api.OK {
		return api.Span{}, api.Span{}, api.Span{}, e
	}
	pure, e = Pure(volume, strength)
	return volume, strength, pure, e
}
