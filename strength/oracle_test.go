package strength_test

import (
	"math/big"
	"math/rand"
	"slices"

	"wormtub/api"
)

// The tests compute what is right on their own, with rational numbers of any size
// and by going through all rows and columns.

func one(n int) api.Span { return api.Span{Lo: n, Hi: n} }

func span(lo, hi int) api.Span { return api.Span{Lo: lo, Hi: hi} }

// example returns the table of the document's examples.
func example() api.Table {
	return api.Table{
		Temps:     []int{100, 200, 300},
		Strengths: []int{0, 5000, 10000},
		Shown:     [][]int{{-100, 4600, 9700}, {0, 5000, 10000}, {200, 5500, 10200}},
		Room: [][]int{
			{999000, 992000, 990000}, {1000000, 1000000, 1000000}, {1002000, 1009000, 1012000},
		},
	}
}

// copyOf returns a table that shares no memory with t.
func copyOf(t api.Table) api.Table {
	c := api.Table{Temps: slices.Clone(t.Temps), Strengths: slices.Clone(t.Strengths)}
	for _, row := range t.Shown {
		c.Shown = append(c.Shown, slices.Clone(row))
	}
	for _, row := range t.Room {
		c.Room = append(c.Room, slices.Clone(row))
	}
	return c
}

// rat returns a / b.
func rat(a, b int) *big.Rat { return big.NewRat(int64(a), int64(b)) }

func add(a, b *big.Rat) *big.Rat { return new(big.Rat).Add(a, b) }

func sub(a, b *big.Rat) *big.Rat { return new(big.Rat).Sub(a, b) }

func mul(a, b *big.Rat) *big.Rat { return new(big.Rat).Mul(a, b) }

func quo(a, b *big.Rat) *big.Rat { return new(big.Rat).Quo(a, b) }

// floor rounds down; ceil rounds up.
func floor(x *big.Rat) int {
	return int(new(big.Int).Div(x.Num(), x.Denom()).Int64()) // Euclid's, as Denom is above 0
}

func ceil(x *big.Rat) int { return -floor(new(big.Rat).Neg(x)) }

// outward returns the least span of integers that contains a and b.
func outward(a, b *big.Rat) api.Span { return api.Span{Lo: floor(a), Hi: ceil(b)} }

// holds tells whether a real number is in a span.
func holds(s api.Span, x *big.Rat) bool {
	return rat(s.Lo, 1).Cmp(x) <= 0 && x.Cmp(rat(s.Hi, 1)) <= 0
}

// inside tells whether a span is a part of another one.
func inside(narrow, wide api.Span) bool { return wide.Lo <= narrow.Lo && narrow.Hi <= wide.Hi }

// segment returns the index of a number of the axis with x from it to the next one,
// and the part of the way.
func segment(axis []int, x *big.Rat) (int, *big.Rat) {
	for i := 0; i+1 < len(axis); i++ {
		if x.Cmp(rat(axis[i+1], 1)) <= 0 {
			return i, quo(sub(x, rat(axis[i], 1)), rat(axis[i+1]-axis[i], 1))
		}
	}
	panic("not on the axis")
}

// at returns the value of rows at a temperature and a strength, as the document has it.
func at(t api.Table, rows [][]int, temp, strength *big.Rat) *big.Rat {
	i, u := segment(t.Temps, temp)
	j, v := segment(t.Strengths, strength)
	one := rat(1, 1)
	sum := mul(mul(sub(one, u), sub(one, v)), rat(rows[i][j], 1))
	sum = add(sum, mul(mul(sub(one, u), v), rat(rows[i][j+1], 1)))
	sum = add(sum, mul(mul(u, sub(one, v)), rat(rows[i+1][j], 1)))
	return add(sum, mul(mul(u, v), rat(rows[i+1][j+1], 1)))
}

// stops returns the ends of a span and what the axis has between them.
func stops(axis []int, s api.Span) []*big.Rat {
	l := []*big.Rat{rat(s.Lo, 1), rat(s.Hi, 1)}
	for _, x := range axis {
		if s.Lo <= x && x <= s.Hi {
			l = append(l, rat(x, 1))
		}
	}
	return l
}

// bounds returns the least and the greatest value of rows in two spans.
func bounds(t api.Table, rows [][]int, strength, temp api.Span) (least, greatest *big.Rat) {
	for _, x := range stops(t.Temps, temp) {
		for _, s := range stops(t.Strengths, strength) {
			v := at(t, rows, x, s)
			if least == nil || v.Cmp(least) < 0 {
				least = v
			}
			if greatest == nil || v.Cmp(greatest) > 0 {
				greatest = v
			}
		}
	}
	return least, greatest
}

// all returns the span of the numbers of an axis.
func all(axis []int) api.Span { return span(axis[0], axis[len(axis)-1]) }

// rightShown returns what Shown is to return.
func rightShown(t api.Table, strength, temp api.Span) api.Span {
	return outward(bounds(t, t.Shown, strength, temp))
}

// rightVolume returns what Volume is to return, but for ErrRefuse.
func rightVolume(t api.Table, amount, strength, temp api.Span) api.Span {
	least, greatest := bounds(t, t.Room, strength, temp)
	litre := rat(api.Litre, 1)
	return outward(quo(mul(rat(amount.Lo, 1), litre), greatest), quo(mul(rat(amount.Hi, 1), litre), least))
}

// rightStrength returns what Strength is to return, or false if there is none: it
// solves each straight line of each temperature at which lines bend.
func rightStrength(t api.Table, shown, temp api.Span) (api.Span, bool) {
	var least, greatest *big.Rat
	take := func(s *big.Rat) {
		if least == nil || s.Cmp(least) < 0 {
			least = s
		}
		if greatest == nil || s.Cmp(greatest) > 0 {
			greatest = s
		}
	}
	for _, s := range t.Strengths {
		a, b := bounds(t, t.Shown, one(s), temp)
		if a.Cmp(rat(shown.Hi, 1)) <= 0 && b.Cmp(rat(shown.Lo, 1)) >= 0 {
			take(rat(s, 1))
		}
	}
	for _, x := range stops(t.Temps, temp) {
		for j := 0; j+1 < len(t.Strengths); j++ {
			s, next := rat(t.Strengths[j], 1), rat(t.Strengths[j+1], 1)
			a, b := at(t, t.Shown, x, s), at(t, t.Shown, x, next)
			for _, end := range []int{shown.Lo, shown.Hi} {
				g := rat(end, 1)
				if a.Cmp(g) <= 0 && g.Cmp(b) <= 0 {
					take(add(s, mul(sub(next, s), quo(sub(g, a), sub(b, a)))))
				}
			}
		}
	}
	if least == nil {
		return api.Span{}, false
	}
	return outward(least, greatest), true
}

// rising returns count different numbers from least to greatest, in their order.
func rising(r *rand.Rand, count, least, greatest int) []int {
	seen := map[int]bool{}
	var l []int
	for len(l) < count {
		n := least + r.Intn(greatest-least+1)
		if !seen[n] {
			seen[n] = true
			l = append(l, n)
		}
	}
	slices.Sort(l)
	return l
}

// anyTable returns a valid table without any other rule to it.
func anyTable(r *rand.Rand) api.Table {
	t := api.Table{
		Temps:     rising(r, 2+r.Intn(5), api.MinTemp, api.MaxTemp),
		Strengths: rising(r, 2+r.Intn(5), 0, api.MaxStrength),
	}
	least, greatest := -api.MaxStrength, 2*api.MaxStrength
	if r.Intn(2) == 0 { // numbers so close that the lines of different temperatures cross
		least, greatest = -20, 20
	}
	for range t.Temps {
		t.Shown = append(t.Shown, rising(r, len(t.Strengths), least, greatest))
		room := make([]int, len(t.Strengths))
		for j := range room {
			room[j] = api.MinRoom + r.Intn(api.MaxRoom-api.MinRoom+1)
		}
		t.Room = append(t.Room, room)
	}
	return t
}

// anySpan returns a span from least to greatest, often one of a single number.
func anySpan(r *rand.Rand, least, greatest int) api.Span {
	a := least + r.Intn(greatest-least+1)
	b := a
	if r.Intn(3) > 0 {
		b = a + r.Intn(greatest-a+1)
	}
	return span(a, b)
}

// part returns a span within s.
func part(r *rand.Rand, s api.Span) api.Span { return anySpan(r, s.Lo, s.Hi) }

// real returns a number of a span that may be between two integers.
func real(r *rand.Rand, s api.Span) *big.Rat {
	den := 1 + r.Intn(7)
	return add(rat(s.Lo, 1), rat(r.Intn((s.Hi-s.Lo)*den+1), den))
}
