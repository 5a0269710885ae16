package wash_test

import (
	"math/big"
	"math/rand"

	"wormtub/api"
)

// The tests compute what is right on their own: with rational numbers of any size, as
// the document writes the ends of the spans, and by following what is true.

const (
	maxInt = int(^uint(0) >> 1)
	minInt = -maxInt - 1
)

func one(n int) api.Span { return api.Span{Lo: n, Hi: n} }

func span(lo, hi int) api.Span { return api.Span{Lo: lo, Hi: hi} }

// exampleMash, exampleYeast and exampleVat return those of the document's examples.
func exampleMash() api.Mash {
	return api.Mash{Grist: 1000, Water: 4000, Extract: span(700, 750), Hold: span(1000, 1200)}
}

func exampleYeast() api.Yeast {
	return api.Yeast{
		Temps: []int{20000, 30000}, Rates: []api.Span{span(10, 20), span(50, 100), span(0, 5)},
		Spirit: span(640, 650), Gas: span(480, 490), Heat: one(600),
	}
}

func exampleVat() api.Vat {
	return api.Vat{Sugar: one(1000000), Temp: one(25000), Capacity: 40000000}
}

// plainYeast returns yeast that eats the same at all temperatures.
func plainYeast(rate api.Span) api.Yeast {
	return api.Yeast{Rates: []api.Span{rate}, Spirit: one(0), Gas: one(0), Heat: one(0)}
}

func rat(n int) *big.Rat { return big.NewRat(int64(n), 1) }

func plus(a, b *big.Rat) *big.Rat { return new(big.Rat).Add(a, b) }

func less(a, b *big.Rat) *big.Rat { return new(big.Rat).Sub(a, b) }

func times(a, b *big.Rat) *big.Rat { return new(big.Rat).Mul(a, b) }

func over(a, b *big.Rat) *big.Rat { return new(big.Rat).Quo(a, b) }

// floor rounds down; ceil rounds up.
func floor(x *big.Rat) int {
	return int(new(big.Int).Div(x.Num(), x.Denom()).Int64()) // Euclid's, as Denom is above 0
}

func ceil(x *big.Rat) int { return -floor(new(big.Rat).Neg(x)) }

// share returns the product of some numbers, divided by n: of their Los, rounded down,
// to that of their His, rounded up.
func share(n int, l ...api.Span) api.Span {
	lo, hi := rat(1), rat(1)
	for _, s := range l {
		lo, hi = times(lo, rat(s.Lo)), times(hi, rat(s.Hi))
	}
	return span(floor(over(lo, rat(n))), ceil(over(hi, rat(n))))
}

// add adds up spans.
func add(a, b api.Span) api.Span { return span(a.Lo+b.Lo, a.Hi+b.Hi) }

// rightRate goes through the ranges, each with the temperatures that it has.
func rightRate(y api.Yeast, temps api.Span) api.Span {
	r := span(maxInt, minInt)
	for i, x := range y.Rates {
		from, to := minInt, maxInt
		if i > 0 {
			from = y.Temps[i-1]
		}
		if i < len(y.Temps) {
			to = y.Temps[i] - 1
		}
		if max(from, temps.Lo) <= min(to, temps.Hi) {
			r = span(min(r.Lo, x.Lo), max(r.Hi, x.Hi))
		}
	}
	return r
}

// rightHour returns what the document says of an hour.
func rightHour(y api.Yeast, v api.Vat, cool api.Span) (api.Vat, api.Errno) {
	r := rightRate(y, v.Temp)
	eaten := share(1000, v.Sugar, r)
	warm := share(v.Capacity, eaten, y.Heat, one(1000))
	out := share(1000, eaten, y.Gas)
	behind := api.Vat{
		Sugar: share(1000, v.Sugar, span(1000-r.Hi, 1000-r.Lo)), Eaten: add(v.Eaten, eaten),
		Spirit: add(v.Spirit, share(1000, eaten, y.Spirit)), Gas: add(v.Gas, out), Out: out,
		Temp:     span(v.Temp.Lo+warm.Lo-cool.Hi, v.Temp.Hi+warm.Hi-cool.Lo),
		Capacity: v.Capacity,
	}
	for _, s := range amounts(behind) {
		if s.Hi > api.MaxSugar {
			return api.Vat{}, api.ErrLimit
		}
	}
	if behind.Temp.Lo < api.MinDegree || behind.Temp.Hi > api.MaxDegree {
		return api.Vat{}, api.ErrLimit
	}
	return behind, api.OK
}

// rightFerment returns the vats behind hours.
func rightFerment(y api.Yeast, v api.Vat, cool []api.Span) ([]api.Vat, api.Errno) {
	var l []api.Vat
	for _, c := range cool {
		behind, e := rightHour(y, v, c)
		if e != api.OK {
			return nil, e
		}
		v, l = behind, append(l, behind)
	}
	return l, api.OK
}

// amounts returns the amounts of a vat.
func amounts(v api.Vat) []api.Span { return []api.Span{v.Sugar, v.Eaten, v.Spirit, v.Gas, v.Out} }

// spans returns all spans of a vat.
func spans(v api.Vat) []api.Span { return append(amounts(v), v.Temp) }

// inside tells whether a span is within another one.
func inside(s, wide api.Span) bool { return wide.Lo <= s.Lo && s.Lo <= s.Hi && s.Hi <= wide.Hi }

// holds tells whether a span contains a true number, which need not be whole.
func holds(s api.Span, x *big.Rat) bool { return rat(s.Lo).Cmp(x) <= 0 && x.Cmp(rat(s.Hi)) <= 0 }

// anySpan returns a valid span within two limits, often a narrow one.
func anySpan(r *rand.Rand, least, greatest int) api.Span {
	lo := least + r.Intn(greatest-least+1)
	room := greatest - lo
	if r.Intn(3) > 0 {
		room = min(room, 5)
	}
	return span(lo, lo+r.Intn(room+1))
}

// narrower returns a valid span that is within s.
func narrower(r *rand.Rand, s api.Span) api.Span {
	lo := s.Lo + r.Intn(s.Hi-s.Lo+1)
	return span(lo, lo+r.Intn(s.Hi-lo+1))
}

// anyIn returns a number in a span, not always a whole one, often an end.
func anyIn(r *rand.Rand, s api.Span) *big.Rat {
	part := big.NewRat(int64([]int{0, 1, 2, 3, 4, 4}[r.Intn(6)]), 4)
	return plus(rat(s.Lo), times(part, rat(s.Hi-s.Lo)))
}

// anyYeast returns valid yeast with temperatures around those of anyVat.
func anyYeast(r *rand.Rand) api.Yeast {
	y := api.Yeast{Spirit: anySpan(r, 0, 1000), Gas: anySpan(r, 0, 1000), Heat: anySpan(r, 0, 1000)}
	temp := 15000 + r.Intn(10000)
	for range r.Intn(5) {
		temp += 1 + r.Intn(3000)
		y.Temps = append(y.Temps, temp)
	}
	for range len(y.Temps) + 1 {
		y.Rates = append(y.Rates, anySpan(r, 0, []int{3, 100, 1000}[r.Intn(3)]))
	}
	return y
}

// anyVat returns a valid vat with sugar up to most.
func anyVat(r *rand.Rand, most int) api.Vat {
	return api.Vat{
		Sugar: anySpan(r, 0, most), Eaten: anySpan(r, 0, 50), Spirit: anySpan(r, 0, 50), Gas: anySpan(r, 0, 50),
		Out: anySpan(r, 0, 50), Temp: anySpan(r, 15000, 35000), Capacity: 1 + r.Intn(1000*most),
	}
}

// anyCooling returns so many valid coolings.
func anyCooling(r *rand.Rand, count int) []api.Span {
	var l []api.Span
	for range count {
		l = append(l, anySpan(r, 0, 3000))
	}
	return l
}

// badSpans returns spans that are not valid ones from least to greatest.
func badSpans(least, greatest int) []api.Span {
	return []api.Span{
		one(least - 1), one(greatest + 1), span(least-1, greatest), span(least, greatest+1),
		span(least+1, least), span(greatest, greatest-1), span(greatest, least),
		span(minInt, maxInt), span(maxInt, minInt), one(minInt), one(maxInt),
		span(least, maxInt), span(minInt, least),
	}
}

// badYeasts returns yeasts that are not valid.
func badYeasts() []api.Yeast {
	l := []api.Yeast{{}, {Temps: []int{20000}}, {Rates: []api.Span{one(1), one(1)}}}
	with := func(change func(y *api.Yeast)) {
		y := exampleYeast()
		change(&y)
		l = append(l, y)
	}
	for _, temps := range [][]int{
		nil, {20000}, {20000, 20000}, {30000, 20000}, {20000, 25000, 30000}, {minInt, maxInt},
		{api.MinDegree - 1, 30000}, {20000, api.MaxDegree + 1}, {20000, maxInt}, {minInt, 20000},
	} {
		with(func(y *api.Yeast) { y.Temps = temps })
	}
	with(func(y *api.Yeast) { y.Rates = y.Rates[:2] })
	with(func(y *api.Yeast) { y.Rates = append(y.Rates, one(1)) })
	with(func(y *api.Yeast) { y.Rates = nil })
	for _, s := range badSpans(0, 1000) {
		for i := range 3 {
			with(func(y *api.Yeast) { y.Rates[i] = s })
		}
		with(func(y *api.Yeast) { y.Spirit = s })
		with(func(y *api.Yeast) { y.Gas = s })
	}
	for _, s := range badSpans(0, api.MaxJoules) {
		with(func(y *api.Yeast) { y.Heat = s })
	}
	return append(l, manyTemps(api.MaxYeast+1))
}

// manyTemps returns yeast with so many temperatures.
func manyTemps(count int) api.Yeast {
	y := exampleYeast()
	y.Temps, y.Rates = nil, []api.Span{one(0)}
	for i := range count {
		y.Temps, y.Rates = append(y.Temps, api.MinDegree+1000*i), append(y.Rates, one(i))
	}
	return y
}

// badVats returns vats that are not valid.
func badVats() []api.Vat {
	var l []api.Vat
	for i := range 6 {
		least, greatest := 0, api.MaxSugar
		if i == 5 {
			least, greatest = api.MinDegree, api.MaxDegree
		}
		for _, s := range badSpans(least, greatest) {
			v := exampleVat()
			*[]*api.Span{&v.Sugar, &v.Eaten, &v.Spirit, &v.Gas, &v.Out, &v.Temp}[i] = s
			l = append(l, v)
		}
	}
	for _, n := range []int{0, -1, minInt, api.MaxCapacity + 1, maxInt} {
		v := exampleVat()
		v.Capacity = n
		l = append(l, v)
	}
	return l
}

// badCoolings returns coolings that are not valid.
func badCoolings() []api.Span { return badSpans(0, api.MaxDegree) }
