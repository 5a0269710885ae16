package still

import (
	"iter"

	"wormtub/api"
)

// pot is what is in a still.
type pot api.Pot

// valid tells whether a pot is within the limits.
func (p pot) valid() bool {
	return p.Volume >= 0 && p.Volume <= api.MaxPot && span{0, p.Volume}.covers(p.Alcohol)
}

// strength returns how strong what is in a pot is.
func (p pot) strength() span { return strength(p.Alcohol, p.Volume) }

// strength returns how strong an amount is that has so much alcohol.
func strength(alcohol api.Span, amount int) span {
	if amount == 0 {
		return span{}
	}
	return span{down(alcohol.Lo*api.MaxStrength, amount), up(alcohol.Hi*api.MaxStrength, amount)}
}

// run is a pot while it is drawn from, and how strong its vapour is.
type run struct {
	pot
	lines
}

// draw draws an amount from the pot; an error ends the run by a panic.
func (r *run) draw(amount int) api.Drawn {
	if amount < 1 || amount > api.MaxPot {
		panic(api.ErrRange)
	}
	if amount > r.Volume {
		panic(api.ErrShort)
	}
	rest, strong := r.Volume-amount, r.strength()
	most := min(up(amount*r.vapour(strong).Hi, api.MaxStrength), r.Alcohol.Hi)
	// The liquid gets no stronger: it is weakest at the end, if most of all was drawn.
	stays := max(r.Alcohol.Lo-most, 0)
	weakest := min(strength(api.Span{Lo: stays}, rest).Lo, strong.Lo)
	least := max(down(amount*r.least(weakest), api.MaxStrength), r.Alcohol.Lo-rest)
	greatest := min(r.Alcohol.Hi-least, rest, up(r.Alcohol.Hi*rest, r.Volume))
	r.pot = pot{Volume: rest, Alcohol: api.Span{Lo: stays, Hi: greatest}}
	return api.Drawn{Amount: amount, Alcohol: api.Span{Lo: least, Hi: most}}
}

// draws ranges over what is drawn, amount after amount.
func (r *run) draws(amounts []int) iter.Seq[api.Drawn] {
	return func(yield func(api.Drawn) bool) {
		for _, amount := range amounts {
			if !yield(r.draw(amount)) {
				return
			}
		}
	}
}

// all draws all amounts; it returns the error that ended the run, if one did.
func (r *run) all(amounts []int) (drawn []api.Drawn, end api.Pot, e api.Errno) {
	defer func() {
		if stopped, ok := recover().(api.Errno); ok {
			drawn, end, e = nil, api.Pot{}, stopped
		}
	}()
	for d := range r.draws(amounts) {
		drawn = append(drawn, d)
	}
	return drawn, api.Pot(r.pot), api.OK
}
