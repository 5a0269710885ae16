package wash

import "wormtub/api"

// coolings returns the span that each cooling is within.
func coolings() span { return span{0, api.MaxDegree} }

// degrees returns the span that each temperature is within.
func degrees() span { return span{api.MinDegree, api.MaxDegree} }

// validMash tells whether a mash is within the limits.
func validMash(m api.Mash) bool {
	return m.Grist >= 1 && m.Grist <= api.MaxMash && m.Water >= 1 && m.Water <= api.MaxMash &&
		span{0, thousand}.covers(m.Extract) && span{0, 10 * thousand}.covers(m.Hold)
}

// validYeast tells whether a yeast has a rate for each range of temperatures, and all
// its numbers are within the limits.
func validYeast(y api.Yeast) bool {
	if len(y.Temps) > api.MaxYeast || len(y.Rates) != len(y.Temps)+1 {
		return false
	}
	for i, t := range y.Temps {
		if !degrees().covers(api.Span(exactly(t))) || i > 0 && t <= y.Temps[i-1] {
			return false
		}
	}
	parts := span{0, thousand}.covers
	return all(y.Rates, parts) && parts(y.Spirit) && parts(y.Gas) && span{0, api.MaxJoules}.covers(y.Heat)
}

// validVat tells whether a vat is within the limits.
func validVat(v api.Vat) bool {
	return spansFit(v) && v.Capacity >= 1 && v.Capacity <= api.MaxCapacity
}

// spansFit tells whether the spans of a vat are within the limits.
func spansFit(v api.Vat) bool {
	amounts := []api.Span{v.Sugar, v.Eaten, v.Spirit, v.Gas, v.Out}
	return all(amounts, span{0, api.MaxSugar}.covers) && degrees().covers(v.Temp)
}

// validWash tells whether yeast, vat and coolings are valid.
func validWash(y api.Yeast, v api.Vat, cool []api.Span) bool {
	return validYeast(y) && validVat(v) && all(cool, coolings().covers)
}
