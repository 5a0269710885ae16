package wash

import (
	"slices"

	"wormtub/api"
)

// picks is the index of a choice for each hour.
type picks []int

// task is to cool a wash so that it is kept as it has to be, with one of the choices in
// each hour.
type task struct {
	yeast   api.Yeast
	vat     api.Vat
	choices []api.Span
	hours   int
	kept    func(temp api.Span) bool
}

// Cool returns the choices that keep a wash within limits, those with the least sum.
func Cool(y api.Yeast, v api.Vat, choices []api.Span, hours int, limits api.Span) ([]int, api.Errno) {
	if limits.Lo > limits.Hi || !validWash(y, v, choices) {
		return nil, api.ErrArg
	}
	if len(choices) < 1 || len(choices) > api.MaxChoices || hours < 0 || hours > api.MaxCooled {
		return nil, api.ErrRange
	}
	t := task{y, v, choices, hours, span(limits).covers}
	for sum := range t.greatest(hours) + 1 {
		if chosen, found := t.first(sum); found {
			return chosen, api.OK
		}
	}
	return nil, api.ErrNone
}

// greatest returns the greatest sum of indices that some hours can have.
func (t task) greatest(hours int) int { return hours * (len(t.choices) - 1) }

// first returns, of the choices with a sum of indices, the first ones in lexicographic
// order that do it.
func (t task) first(sum int) (chosen []int, found bool) {
	defer func() {
		if p, ok := recover().(picks); ok {
			chosen, found = p, true
		}
	}()
	picked := make(picks, t.hours)
	var from func(hour int, v api.Vat, rest int)
	from = func(hour int, v api.Vat, rest int) {
		if rest < 0 || rest > t.greatest(t.hours-hour) {
			return
		}
		if hour == t.hours {
			panic(slices.Clone(picked)) // out of all hours at once
		}
		for i, c := range t.choices {
			if behind, e := hourLater(t.yeast, v, c); e == api.OK && t.kept(behind.Temp) {
				picked[hour] = i
				from(hour+1, behind, rest-i)
			}
		}
	}
	from(0, t.vat, sum)
	return nil, false
}
