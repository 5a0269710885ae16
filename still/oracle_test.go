package still_test

import (
	"math/big"
	"math/rand"
	"slices"

	"wormtub/api"
)

// The tests compute what is right on their own: with rational numbers of any size, as
// the document writes the ends of the spans, and by following what is true.

const (
	maxInt = int(^uint(0) >> 1)
	minInt = -maxInt - 1
)

func one(n int) api.Span { return api.Span{Lo: n, Hi: n} }

func span(lo, hi int) api.Span { return api.Span{Lo: lo, Hi: hi} }

// exampleCurve and examplePot return those of the document's examples.
func exampleCurve() api.Curve {
	return api.Curve{
		Liquid: []int{0, 1000, 5000, 10000},
		Vapour: []api.Span{one(0), span(5000, 5200), span(8000, 8100), one(10000)},
	}
}

func examplePot() api.Pot { return api.Pot{Volume: 10000, Alcohol: one(1000)} }

// plainCurve returns a curve whose vapour is as strong as the liquid.
func plainCurve() api.Curve {
	return api.Curve{Liquid: []int{0, 10000}, Vapour: []api.Span{one(0), one(10000)}}
}

func rat(n int) *big.Rat { return big.NewRat(int64(n), 1) }

func plus(a, b *big.Rat) *big.Rat { return new(big.Rat).Add(a, b) }

func less(a, b *big.Rat) *big.Rat { return new(big.Rat).Sub(a, b) }

func times(a, b *big.Rat) *big.Rat { return new(big.Rat).Mul(a, b) }

func over(a, b *big.Rat) *big.Rat { return new(big.Rat).Quo(a, b) }

// floor rounds down; ceil rounds up.
func floor(x *big.Rat) int {
	return int(new(big.Int).Div(x.Num(), x.Denom()).Int64()) // Euclid's, as Denom is above 0
}

func ceil(x *big.Rat) int { return -floor(new(big.Rat).Neg(x)) }

// ratio returns a times b, divided by n.
func ratio(a, b, n int) *big.Rat { return over(times(rat(a), rat(b)), rat(n)) }

// lowest and highest return the ends of a span.
func lowest(s api.Span) int { return s.Lo }

func highest(s api.Span) int { return s.Hi }

// height returns how high the line through one end of each vapour is at a strength: it
// is within the last step that begins at or below the strength.
func height(c api.Curve, end func(api.Span) int, x *big.Rat) *big.Rat {
	k := 0
	for i := range len(c.Liquid) - 1 {
		if rat(c.Liquid[i]).Cmp(x) <= 0 {
			k = i
		}
	}
	part := over(less(x, rat(c.Liquid[k])), rat(c.Liquid[k+1]-c.Liquid[k]))
	from, to := rat(end(c.Vapour[k])), rat(end(c.Vapour[k+1]))
	return plus(times(from, less(rat(1), part)), times(to, part))
}

// rightVapour returns the vapour of strengths.
func rightVapour(c api.Curve, s api.Span) api.Span {
	return span(floor(height(c, lowest, rat(s.Lo))), ceil(height(c, highest, rat(s.Hi))))
}

// rightStrength returns the strength of an amount with alcohol.
func rightStrength(alcohol api.Span, amount int) api.Span {
	if amount == 0 {
		return one(0)
	}
	return span(floor(ratio(alcohol.Lo, 10000, amount)), ceil(ratio(alcohol.Hi, 10000, amount)))
}

// rightDraw returns what is drawn from a valid pot, and the pot then.
func rightDraw(c api.Curve, p api.Pot, d int) (api.Drawn, api.Pot, api.Errno) {
	if d < 1 || d > api.MaxPot {
		return api.Drawn{}, api.Pot{}, api.ErrRange
	}
	if d > p.Volume {
		return api.Drawn{}, api.Pot{}, api.ErrShort
	}
	a, v := p.Alcohol, p.Volume
	strong := rightStrength(a, v)
	most := min(ceil(ratio(d, rightVapour(c, strong).Hi, 10000)), a.Hi)
	stays := max(a.Lo-most, 0)
	weakest := min(rightStrength(one(stays), v-d).Lo, strong.Lo)
	least := max(floor(ratio(d, rightVapour(c, one(weakest)).Lo, 10000)), a.Lo-(v-d))
	rest := span(stays, slices.Min([]int{a.Hi - least, v - d, ceil(ratio(a.Hi, v-d, v))}))
	return api.Drawn{Amount: d, Alcohol: span(least, most)}, api.Pot{Volume: v - d, Alcohol: rest}, api.OK
}

// rightRun returns what is drawn from a valid pot, and the pot at the end.
func rightRun(c api.Curve, p api.Pot, amounts []int) ([]api.Drawn, api.Pot, api.Errno) {
	var l []api.Drawn
	for _, d := range amounts {
		drawn, then, e := rightDraw(c, p, d)
		if e != api.OK {
			return nil, api.Pot{}, e
		}
		l, p = append(l, drawn), then
	}
	return l, p, api.OK
}

// inside tells whether a span is within another one.
func inside(s, wide api.Span) bool { return wide.Lo <= s.Lo && s.Lo <= s.Hi && s.Hi <= wide.Hi }

// holds tells whether a span contains a true number, which need not be whole.
func holds(s api.Span, x *big.Rat) bool { return rat(s.Lo).Cmp(x) <= 0 && x.Cmp(rat(s.Hi)) <= 0 }

// anySpan returns a valid span within two limits, often a narrow one.
func anySpan(r *rand.Rand, least, greatest int) api.Span {
	lo := least + r.Intn(greatest-least+1)
	room := greatest - lo
	if r.Intn(3) > 0 {
		room = min(room, 5)
	}
	return span(lo, lo+r.Intn(room+1))
}

// narrower returns a valid span that is within s.
func narrower(r *rand.Rand, s api.Span) api.Span {
	lo := s.Lo + r.Intn(s.Hi-s.Lo+1)
	return span(lo, lo+r.Intn(s.Hi-lo+1))
}

// anyIn returns a number in a span, not always a whole one, often an end.
func anyIn(r *rand.Rand, s api.Span) *big.Rat {
	part := big.NewRat(int64([]int{0, 1, 2, 3, 4, 4}[r.Intn(6)]), 4)
	return plus(rat(s.Lo), times(part, rat(s.Hi-s.Lo)))
}

// rising returns so many numbers from 0 to 10000 that do not fall.
func rising(r *rand.Rand, count int) []int {
	var l []int
	for range count {
		l = append(l, r.Intn(10001))
	}
	slices.Sort(l)
	return l
}

// anyCurve returns a valid curve whose spans are up to wide wider than the Los.
func anyCurve(r *rand.Rand, wide int) api.Curve {
	liquid := slices.Compact(append(append([]int{0}, rising(r, r.Intn(6))...), 10000))
	if liquid[len(liquid)-2] == 10000 {
		liquid = liquid[:len(liquid)-1]
	}
	c := api.Curve{Liquid: liquid, Vapour: []api.Span{span(0, r.Intn(wide+1))}}
	for i, lo := range rising(r, len(liquid)-1) {
		x, was := liquid[i+1], c.Vapour[i]
		lo = max(lo, x, was.Lo)
		c.Vapour = append(c.Vapour, span(lo, min(10000, max(lo+r.Intn(wide+1), was.Hi))))
	}
	return c
}

// anyPot returns a valid pot of a volume up to most.
func anyPot(r *rand.Rand, most int) api.Pot {
	volume := r.Intn(most + 1)
	return api.Pot{Volume: volume, Alcohol: anySpan(r, 0, volume)}
}

// anyAmounts returns so many amounts, which mostly can be drawn from a volume.
func anyAmounts(r *rand.Rand, count, volume int) []int {
	var l []int
	for i := range count {
		d := 1
		if volume > 1 {
			d += r.Intn(max(1, volume/(count-i)))
		}
		volume = max(volume-d, 0)
		if r.Intn(5) == 0 {
			d += volume // all of it
			volume = 0
		}
		l = append(l, d)
	}
	return l
}

// badSpans returns spans that are not valid ones from least to greatest.
func badSpans(least, greatest int) []api.Span {
	l := []api.Span{
		one(least - 1), one(greatest + 1), span(least-1, greatest), span(least, greatest+1),
		span(least+1, least), span(greatest, greatest-1), span(minInt, maxInt), span(maxInt, minInt),
		one(minInt), one(maxInt), span(least, maxInt), span(minInt, least),
	}
	if least < greatest {
		l = append(l, span(greatest, least))
	}
	return l
}

// badNumbers returns numbers that are not from least to greatest.
func badNumbers(least, greatest int) []int { return []int{least - 1, greatest + 1, minInt, maxInt} }

// fineCurve returns a curve with so many liquids.
func fineCurve(count int) api.Curve {
	var c api.Curve
	for i := range count {
		x := i * 10000 / (count - 1)
		c.Liquid, c.Vapour = append(c.Liquid, x), append(c.Vapour, one(x))
	}
	return c
}

// badCurves returns curves that are not valid.
func badCurves() []api.Curve {
	l := []api.Curve{
		{}, {Liquid: []int{0}, Vapour: []api.Span{one(0)}}, {Liquid: []int{10000}, Vapour: []api.Span{one(10000)}},
		{Liquid: []int{0, 10000}}, {Vapour: []api.Span{one(0), one(10000)}},
		fineCurve(api.MaxCurve + 1), fineCurve(1000),
	}
	with := func(change func(c *api.Curve)) {
		c := exampleCurve()
		change(&c)
		l = append(l, c)
	}
	for _, liquid := range [][]int{
		nil, {0, 1000, 10000}, {0, 1000, 5000, 7000, 10000}, {0, 1000, 1000, 10000}, {0, 5000, 1000, 10000},
		{0, 0, 5000, 10000}, {0, 1000, 10000, 10000}, {1, 1000, 5000, 10000}, {-1, 1000, 5000, 10000},
		{0, 1000, 5000, 9999}, {0, 1000, 5000, 10001}, {0, 1000, 5000, maxInt}, {minInt, 1000, 5000, 10000},
		{0, -1, 5000, 10000}, {0, 1000, 10001, 10000}, {0, 5001, 6000, 10000}, {0, 1000, 8001, 10000},
		{0, minInt, 5000, 10000}, {0, 1000, maxInt, 10000}, {10000, 5000, 1000, 0},
	} {
		with(func(c *api.Curve) { c.Liquid = liquid })
	}
	with(func(c *api.Curve) { c.Vapour = c.Vapour[:3] })
	with(func(c *api.Curve) { c.Vapour = append(c.Vapour, one(10000)) })
	with(func(c *api.Curve) { c.Vapour = nil })
	for i := range 4 {
		for _, s := range badSpans(exampleCurve().Liquid[i], 10000) {
			with(func(c *api.Curve) { c.Vapour[i] = s })
		}
	}
	with(func(c *api.Curve) { c.Vapour[0] = one(1) })           // rises from more than no alcohol
	with(func(c *api.Curve) { c.Vapour[0] = span(0, 5201) })    // a Hi falls
	with(func(c *api.Curve) { c.Vapour[1] = span(8001, 8001) }) // a Lo falls
	with(func(c *api.Curve) { c.Vapour[1] = span(5000, 8101) })
	with(func(c *api.Curve) { c.Vapour[2] = span(4999, 8100) }) // weaker than its liquid, and falls
	with(func(c *api.Curve) { c.Vapour[2] = span(5000, 5199) })
	with(func(c *api.Curve) { c.Vapour[3] = span(9999, 10000) })
	return l
}

// badPots returns pots that are not valid.
func badPots() []api.Pot {
	var l []api.Pot
	for _, volume := range badNumbers(0, api.MaxPot) {
		l = append(l, api.Pot{Volume: volume}, api.Pot{Volume: volume, Alcohol: one(volume)})
	}
	for _, volume := range []int{0, 1, 10000, api.MaxPot} {
		for _, s := range badSpans(0, volume) {
			l = append(l, api.Pot{Volume: volume, Alcohol: s})
		}
	}
	return l
}
