package stream_test

import (
	"math/big"
	"math/rand"

	"wormtub/api"
)

// The tests compute what is right on their own: with rational numbers of any size, as
// the document's table writes what a point does, for many true numbers.

const (
	maxInt = int(^uint(0) >> 1)
	minInt = -maxInt - 1
)

func one(n int) api.Span { return api.Span{Lo: n, Hi: n} }

func span(lo, hi int) api.Span { return api.Span{Lo: lo, Hi: hi} }

func water(flow, warm api.Span) api.Water { return api.Water{Flow: flow, Warm: warm} }

func join(flow, warm api.Span) api.Point { return api.Point{Kind: api.Join, Flow: flow, Warm: warm} }

func draw(flow api.Span) api.Point { return api.Point{Kind: api.Draw, Flow: flow} }

func add(heat api.Span) api.Point { return api.Point{Kind: api.Add, Heat: heat} }

func air(warm, share api.Span) api.Point { return api.Point{Kind: api.Air, Warm: warm, Share: share} }

// exampleWater and examplePoints return those of the document's examples, and
// exampleBehind what is known behind each.
func exampleWater() api.Water { return water(span(1000, 1200), span(8000, 9000)) }

func examplePoints() []api.Point {
	return []api.Point{
		add(span(1000000, 1200000)), draw(one(200)),
		join(span(100, 400), span(12000, 14000)), air(span(5000, 6000), span(1000, 2000)),
	}
}

func exampleBehind() []api.Water {
	return []api.Water{
		water(span(1000, 1200), span(8833, 10200)), water(span(800, 1000), span(8833, 10200)),
		water(span(900, 1400), span(9120, 11467)), water(span(900, 1400), span(8296, 10921)),
	}
}

func rat(n int) *big.Rat { return big.NewRat(int64(n), 1) }

func plus(a, b *big.Rat) *big.Rat { return new(big.Rat).Add(a, b) }

func less(a, b *big.Rat) *big.Rat { return new(big.Rat).Sub(a, b) }

func times(a, b *big.Rat) *big.Rat { return new(big.Rat).Mul(a, b) }

func over(a, b *big.Rat) *big.Rat { return new(big.Rat).Quo(a, b) }

// floor rounds down; ceil rounds up.
func floor(x *big.Rat) int {
	return int(new(big.Int).Div(x.Num(), x.Denom()).Int64()) // Euclid's, as Denom is above 0
}

func ceil(x *big.Rat) int { return -floor(new(big.Rat).Neg(x)) }

// some returns true numbers in a span: all of a narrow one, else the ends and a middle.
func some(s api.Span) []*big.Rat {
	if s.Hi-s.Lo > 2 {
		return []*big.Rat{rat(s.Lo), rat((s.Lo + s.Hi) / 2), rat(s.Hi)}
	}
	var l []*big.Rat
	for n := s.Lo; n <= s.Hi; n++ {
		l = append(l, rat(n))
	}
	return l
}

// wide is a span that grows with the numbers that are put in.
type wide struct{ lo, hi *big.Rat }

func (w *wide) put(x *big.Rat) {
	if w.lo == nil || x.Cmp(w.lo) < 0 {
		w.lo = x
	}
	if w.hi == nil || x.Cmp(w.hi) > 0 {
		w.hi = x
	}
}

// happens returns the flow and the warmth behind a point with true numbers: a flow or a
// heat or a share x, and a warmth u. It is the document's table.
func happens(kind int, f, t, x, u *big.Rat) (flow, warm *big.Rat) {
	switch kind {
	case api.Join:
		flow = plus(f, x)
		return flow, over(plus(times(f, t), times(x, u)), flow)
	case api.Draw:
		return less(f, x), t
	case api.Add:
		return f, plus(t, over(x, f))
	}
	return f, less(t, over(times(x, less(t, u)), rat(api.Whole)))
}

// asked returns the spans that a kind asks for, as happens takes them; a kind that asks
// for one only has 0 as the other.
func asked(p api.Point) (x, u api.Span) {
	switch p.Kind {
	case api.Join:
		return p.Flow, p.Warm
	case api.Draw:
		return p.Flow, one(0)
	case api.Add:
		return p.Heat, one(0)
	}
	return p.Share, p.Warm
}

// rightBehind returns what is known behind a valid point.
func rightBehind(w api.Water, p api.Point) api.Water {
	var flow, warm wide
	xs, us := asked(p)
	for _, f := range some(w.Flow) {
		for _, x := range some(xs) {
			for _, t := range some(w.Warm) {
				for _, u := range some(us) {
					g, v := happens(p.Kind, f, t, x, u)
					flow.put(g)
					warm.put(v)
				}
			}
		}
	}
	return water(span(floor(flow.lo), ceil(flow.hi)), span(floor(warm.lo), ceil(warm.hi)))
}

// isValid tells whether a point is valid.
func isValid(p api.Point) bool {
	in := func(s api.Span, least, most int) bool { return s.Lo >= least && s.Hi >= s.Lo && most >= s.Hi }
	switch p.Kind {
	case api.Join:
		return in(p.Flow, 1, 1<<30) && in(p.Warm, 0, 100000)
	case api.Draw:
		return in(p.Flow, 0, 1<<30)
	case api.Add:
		return in(p.Heat, 0, 1<<40)
	case api.Air:
		return in(p.Warm, 0, 100000) && in(p.Share, 0, 10000)
	}
	return false
}

// rightFlow returns what Flow is to return for valid water, and not too many points.
func rightFlow(w api.Water, l []api.Point) ([]api.Water, int, api.Errno) {
	var all []api.Water
	for i, p := range l {
		if !isValid(p) {
			return nil, i, api.ErrArg
		}
		if p.Kind == api.Draw && w.Flow.Lo-p.Flow.Hi < 1 {
			return nil, i, api.ErrShort
		}
		w = rightBehind(w, p)
		if w.Flow.Hi > 1<<30 || w.Warm.Hi > 100000 {
			return nil, i, api.ErrLimit
		}
		all = append(all, w)
	}
	return all, len(l), api.OK
}

// inside tells whether a span is within another one.
func inside(s, wide api.Span) bool { return wide.Lo <= s.Lo && s.Lo <= s.Hi && s.Hi <= wide.Hi }

// holds tells whether a span contains a true number, which need not be whole.
func holds(s api.Span, x *big.Rat) bool { return rat(s.Lo).Cmp(x) <= 0 && x.Cmp(rat(s.Hi)) <= 0 }

// anySpan returns a valid span within two limits, often a narrow one.
func anySpan(r *rand.Rand, least, greatest int) api.Span {
	lo := least + r.Intn(greatest-least+1)
	room := greatest - lo
	if r.Intn(3) > 0 {
		room = min(room, 5)
	}
	return span(lo, lo+r.Intn(room+1))
}

// narrower returns a valid span that is within s.
func narrower(r *rand.Rand, s api.Span) api.Span {
	lo := s.Lo + r.Intn(s.Hi-s.Lo+1)
	return span(lo, lo+r.Intn(s.Hi-lo+1))
}

// anyIn returns a number in a span, not always a whole one, often an end.
func anyIn(r *rand.Rand, s api.Span) *big.Rat {
	part := big.NewRat(int64([]int{0, 1, 2, 3, 4, 4}[r.Intn(6)]), 4)
	return plus(rat(s.Lo), times(part, rat(s.Hi-s.Lo)))
}

// anyWhole returns a whole number in a span, often an end.
func anyWhole(r *rand.Rand, s api.Span) *big.Rat {
	return rat([]int{s.Lo, s.Hi, s.Lo + r.Intn(s.Hi-s.Lo+1)}[r.Intn(3)])
}

// anyWater returns valid water whose flow is up to most.
func anyWater(r *rand.Rand, most int) api.Water {
	return water(anySpan(r, 1, most), anySpan(r, 0, 40000))
}

// anyPoint returns a valid point for a stream whose flow is up to most.
func anyPoint(r *rand.Rand, kind, most int) api.Point {
	p := api.Point{Kind: kind}
	switch kind {
	case api.Join:
		p.Flow, p.Warm = anySpan(r, 1, most), anySpan(r, 0, 40000)
	case api.Draw:
		p.Flow = anySpan(r, 0, most/4)
	case api.Add:
		p.Heat = anySpan(r, 0, min(most*9000, api.MaxAdded))
	case api.Air:
		p.Warm, p.Share = anySpan(r, 0, 40000), anySpan(r, 0, 10000)
	}
	return p
}

// anyPoints returns so many valid points.
func anyPoints(r *rand.Rand, count, most int) []api.Point {
	var l []api.Point
	for range count {
		l = append(l, anyPoint(r, r.Intn(4), most))
	}
	return l
}

// mosts returns how great flows are to be in tests of all kinds of streams.
func mosts() []int { return []int{3, 50, 100000, api.MaxFlow / 4} }

// badSpans returns spans that are not valid ones from least to greatest.
func badSpans(least, greatest int) []api.Span {
	return []api.Span{
		one(least - 1), one(greatest + 1), span(least-1, greatest), span(least, greatest+1),
		span(least+1, least), span(greatest, greatest-1), span(greatest, least),
		span(minInt, maxInt), span(maxInt, minInt), one(minInt), one(maxInt), span(least, maxInt), span(minInt, least),
	}
}

// badNumbers returns numbers that are not from least to greatest.
func badNumbers(least, greatest int) []int { return []int{least - 1, greatest + 1, minInt, maxInt} }

// badWaters returns water that is not valid.
func badWaters() []api.Water {
	l := []api.Water{{}}
	for _, s := range badSpans(1, api.MaxFlow) {
		l = append(l, water(s, one(5)))
	}
	for _, s := range badSpans(0, api.MaxWarm) {
		l = append(l, water(one(5), s))
	}
	return l
}

// badPoints returns points that are not valid.
func badPoints() []api.Point {
	var l []api.Point
	for _, kind := range badNumbers(api.Join, api.Air) {
		l = append(l, api.Point{Kind: kind, Flow: one(1), Warm: one(1), Heat: one(1), Share: one(1)})
	}
	for _, s := range badSpans(0, api.MaxWarm) {
		l = append(l, join(one(5), s), air(s, one(5)))
	}
	for _, s := range badSpans(1, api.MaxFlow) {
		l = append(l, join(s, one(5)))
	}
	for _, s := range badSpans(0, api.MaxFlow) {
		l = append(l, draw(s))
	}
	for _, s := range badSpans(0, api.MaxAdded) {
		l = append(l, add(s))
	}
	for _, s := range badSpans(0, api.Whole) {
		l = append(l, air(one(5), s))
	}
	return l
}

// idle returns so many points at which nothing happens.
func idle(count int) []api.Point {
	l := make([]api.Point, count)
	for i := range l {
		l[i] = add(one(0))
	}
	return l
}
