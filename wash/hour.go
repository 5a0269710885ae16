package wash

import (
	"iter"

	"wormtub/api"
)

// rate returns how many thousandths of the sugar are eaten in an hour at temperatures.
func rate(y api.Yeast, temps api.Span) span {
	first, last := rangeOf(y, temps.Lo), rangeOf(y, temps.Hi)
	r := span(y.Rates[first])
	for _, other := range y.Rates[first : last+1] {
		r = span{min(r.Lo, other.Lo), max(r.Hi, other.Hi)}
	}
	return r
}

// rangeOf returns the index of the range that has a temperature.
func rangeOf(y api.Yeast, temp int) int {
	i := 0
	for i < len(y.Temps) && y.Temps[i] <= temp {
		i++
	}
	return i
}

// hourLater returns a valid vat behind an hour, or ErrLimit.
func hourLater(y api.Yeast, v api.Vat, cool api.Span) (api.Vat, api.Errno) {
	share, sugar := rate(y, v.Temp), span(v.Sugar)
	eaten := sugar.times(share).by(thousand)
	out := eaten.times(span(y.Gas)).by(thousand)
	spirit := eaten.times(span(y.Spirit)).by(thousand)
	warmer := eaten.times(span(y.Heat)).times(exactly(thousand)).by(v.Capacity)
	behind := api.Vat{
		Sugar:    api.Span(sugar.times(exactly(thousand).less(share)).by(thousand)),
		Eaten:    api.Span(span(v.Eaten).plus(eaten)),
		Spirit:   api.Span(span(v.Spirit).plus(spirit)),
		Gas:      api.Span(span(v.Gas).plus(out)),
		Out:      api.Span(out),
		Temp:     api.Span(span(v.Temp).plus(warmer).less(span(cool))),
		Capacity: v.Capacity,
	}
	if !spansFit(behind) {
		return api.Vat{}, api.ErrLimit
	}
	return behind, api.OK
}

// hours ranges over the vats behind hours, each with its cooling, up to the first hour
// that has an error.
func hours(y api.Yeast, v api.Vat, cool []api.Span) iter.Seq2[api.Vat, api.Errno] {
	return func(yield func(api.Vat, api.Errno) bool) {
		now := v
		for _, c := range cool {
			behind, e := hourLater(y, now, c)
			if !yield(behind, e) || e != api.OK {
				return
			}
			now = behind
		}
	}
}
