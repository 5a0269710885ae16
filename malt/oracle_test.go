package malt_test

import (
	"math/big"
	"math/rand"

	"wormtub/api"
)

// The tests compute what is right on their own: with rational numbers of any size, as
// the document writes the ends of the spans, and by following true amounts.

func one(n int) api.Span { return api.Span{Lo: n, Hi: n} }

func span(lo, hi int) api.Span { return api.Span{Lo: lo, Hi: hi} }

// example returns the malt of the document's examples.
func example() api.Malt {
	return api.Malt{Dry: span(1000, 1010), Water: span(150, 160)}
}

// step returns a step of malting.
func step(kind, a, b int) api.MaltStep { return api.MaltStep{Kind: kind, A: a, B: b} }

// part returns a b / c.
func part(a, b, c int) *big.Rat {
	product := new(big.Int).Mul(big.NewInt(int64(a)), big.NewInt(int64(b)))
	return new(big.Rat).SetFrac(product, big.NewInt(int64(c)))
}

// floor rounds down; ceil rounds up.
func floor(x *big.Rat) int {
	return int(new(big.Int).Div(x.Num(), x.Denom()).Int64()) // Euclid's, as Denom is above 0
}

func ceil(x *big.Rat) int { return -floor(new(big.Rat).Neg(x)) }

// add adds up spans.
func add(a, b api.Span) api.Span { return span(a.Lo+b.Lo, a.Hi+b.Hi) }

// rightStep returns what the document says of a valid step.
func rightStep(m api.Malt, s api.MaltStep) (api.Malt, api.MaltLoss, api.Errno) {
	dry, water, lost := m.Dry, m.Water, api.MaltLoss{}
	switch s.Kind {
	case api.Steep:
		m.Water = span(water.Lo+s.A, water.Hi+s.B)
		lost.Taken = span(s.A, s.B)
	case api.Sprout:
		m.Dry.Lo = ceil(part(dry.Lo, api.Whole-s.B, api.Whole))
		m.Dry.Hi = floor(part(dry.Hi, api.Whole-s.A, api.Whole))
		lost.Gas = span(ceil(part(s.A, dry.Lo, api.Whole)), floor(part(s.B, dry.Hi, api.Whole)))
	case api.Kiln:
		m.Water.Lo = ceil(part(s.A, dry.Lo, api.Whole))
		m.Water.Hi = min(floor(part(s.B, dry.Hi, api.Whole)), water.Hi)
		lost.Steam = span(max(water.Lo-m.Water.Hi, 0), water.Hi-m.Water.Lo)
	case api.Peat:
		m.Phenol.Lo += ceil(part(s.A, dry.Lo, 1000))
		m.Phenol.Hi += floor(part(s.B, dry.Hi, 1000))
	case api.Sieve:
		m.Dry = span(max(dry.Lo-s.B, 0), dry.Hi-s.A)
		lost.Roots = span(s.A, min(s.B, dry.Hi))
	case api.Weigh:
		m.Dry = span(max(dry.Lo, s.A-water.Hi), min(dry.Hi, s.B-water.Lo))
		m.Water = span(max(water.Lo, s.A-dry.Hi), min(water.Hi, s.B-dry.Lo))
	}
	return m, lost, errorOf(m, lost)
}

// all returns the spans of malt and of what was lost.
func all(m api.Malt, l api.MaltLoss) []api.Span {
	return []api.Span{m.Dry, m.Water, m.Phenol, l.Taken, l.Gas, l.Roots, l.Steam}
}

// errorOf returns the error that spans have behind a step.
func errorOf(m api.Malt, lost api.MaltLoss) api.Errno {
	for _, s := range all(m, lost) {
		if s.Lo > s.Hi {
			return api.ErrNone
		}
	}
	for _, s := range all(m, lost) {
		if s.Hi > api.MaxAmount {
			return api.ErrLimit
		}
	}
	return api.OK
}

// rightPlay returns what the document says of valid steps.
func rightPlay(m api.Malt, l []api.MaltStep) (api.Malt, api.MaltLoss, int, api.Errno) {
	sum := api.MaltLoss{}
	for i, s := range l {
		behind, lost, e := rightStep(m, s)
		if e != api.OK {
			return api.Malt{}, api.MaltLoss{}, i, e
		}
		m = behind
		sum = api.MaltLoss{
			Taken: add(sum.Taken, lost.Taken), Gas: add(sum.Gas, lost.Gas),
			Roots: add(sum.Roots, lost.Roots), Steam: add(sum.Steam, lost.Steam),
		}
		if e := errorOf(m, sum); e != api.OK {
			return api.Malt{}, api.MaltLoss{}, i, e
		}
	}
	return m, sum, len(l), api.OK
}

// anySpan returns a valid span within two limits, often a narrow one.
func anySpan(r *rand.Rand, least, greatest int) api.Span {
	lo := least + r.Intn(greatest-least+1)
	room := greatest - lo
	if r.Intn(3) > 0 {
		room = min(room, 3)
	}
	return span(lo, lo+r.Intn(room+1))
}

// anyMalt returns malt with amounts up to most.
func anyMalt(r *rand.Rand, most int) api.Malt {
	return api.Malt{Dry: anySpan(r, 0, most), Water: anySpan(r, 0, most), Phenol: anySpan(r, 0, most)}
}

// greatest returns the greatest number that a step of a kind can have.
func greatest(kind int) int {
	switch kind {
	case api.Sprout, api.Kiln:
		return api.Whole
	case api.Peat:
		return api.MaxPeat
	}
	return api.MaxAmount
}

// anyStep returns a valid step of a kind, with an amount up to most.
func anyStep(r *rand.Rand, kind, most int) api.MaltStep {
	if kind == api.Sprout || kind == api.Kiln || kind == api.Peat {
		most = greatest(kind)
	}
	s := anySpan(r, 0, min(most, greatest(kind)))
	return step(kind, s.Lo, s.Hi)
}

// holds tells whether a span contains a number.
func holds(s api.Span, n int) bool { return s.Lo <= n && n <= s.Hi }

// inside tells whether a span is within another one.
func inside(s, wide api.Span) bool { return wide.Lo <= s.Lo && s.Hi <= wide.Hi }

// around returns a valid span that contains n, from 0 to most.
func around(r *rand.Rand, n, most int) api.Span {
	return span(n-r.Intn(min(n, 5)+1), n+r.Intn(min(most-n, 5)+1))
}

// between returns a span that contains n, and is within s.
func between(r *rand.Rand, s api.Span, n int) api.Span {
	return span(n-r.Intn(n-s.Lo+1), n+r.Intn(s.Hi-n+1))
}

// badSpans returns spans that are not valid ones from 0 to most.
func badSpans(most int) []api.Span {
	return []api.Span{
		one(-1), one(most + 1), span(-1, most), span(0, most+1), span(1, 0), span(most, most-1),
		span(minInt, maxInt), span(maxInt, minInt), one(minInt), one(maxInt), span(0, maxInt), span(minInt, 0),
	}
}

const (
	maxInt = int(^uint(0) >> 1)
	minInt = -maxInt - 1
)

// badMalt returns malt that is not valid.
func badMalt() []api.Malt {
	var l []api.Malt
	for _, s := range badSpans(api.MaxAmount) {
		for i := range 3 {
			m := example()
			*[]*api.Span{&m.Dry, &m.Water, &m.Phenol}[i] = s
			l = append(l, m)
		}
	}
	return l
}
