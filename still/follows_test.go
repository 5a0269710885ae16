package still_test

import (
	"math/big"
	"math/rand"
	"reflect"
	"slices"
	"sync"
	"testing"

	"wormtub/api"
	"wormtub/still"
)

// truth is what is true of a pot; no number has to be whole.
type truth struct{ volume, alcohol *big.Rat }

// strength returns how strong it is.
func (x truth) strength() *big.Rat { return over(times(x.alcohol, rat(10000)), x.volume) }

// moment draws up to d millilitres, whose vapour has one strength within the curve all
// the time; it returns what was drawn. The liquid gets weaker meanwhile, so the vapour
// is at least what is least at the beginning, and at most what is most at the end.
func (x *truth) moment(r *rand.Rand, c api.Curve, d *big.Rat) (*big.Rat, bool) {
	if x.alcohol.Sign() == 0 {
		x.volume = less(x.volume, d)
		return d, true
	}
	strong := x.strength()
	low, high := height(c, lowest, strong), height(c, highest, strong)
	vapour := plus(low, times(less(high, low), anyIn(r, span(0, 1))))
	for range 8 {
		vapour = over(rat(ceil(times(vapour, rat(8)))), rat(8))
		then := truth{less(x.volume, d), less(x.alcohol, over(times(vapour, d), rat(10000)))}
		if then.volume.Sign() > 0 && then.alcohol.Sign() >= 0 && vapour.Cmp(height(c, highest, then.strength())) <= 0 {
			*x = then
			return d, true
		}
		d, vapour = over(d, rat(2)), over(plus(vapour, low), rat(2))
	}
	return nil, false
}

// draw draws an amount, moment after moment, and returns its alcohol.
func (x *truth) draw(r *rand.Rand, c api.Curve, amount int) (*big.Rat, bool) {
	rest, was := rat(amount), x.alcohol
	for range 40 {
		drawn, ok := x.moment(r, c, rest)
		if !ok {
			return nil, false
		}
		rest = less(rest, drawn)
		if rest.Sign() == 0 {
			return less(was, x.alcohol), true
		}
	}
	return nil, false
}

// checkDone checks that enough of what was tried could be followed.
func checkDone(t *testing.T, done int) {
	t.Helper()
	if done < 1000 {
		t.Error("too little of what was tried shows anything", done)
	}
}

// checkKind checks that what something truly is is in the sum of what it can be.
func checkKind(t *testing.T, strong *big.Rat, cut, end, sum int) {
	t.Helper()
	kind := api.Spent
	if strong.Cmp(rat(cut)) >= 0 {
		kind = api.Heart
	} else if strong.Cmp(rat(end)) >= 0 {
		kind = api.Feints
	}
	if sum != api.Foreshots && sum&kind == 0 {
		t.Fatal("a true kind is not told", strong, cut, end, sum)
	}
}

// P4.9 and P4.10: whatever the vapour is at each moment, what was drawn and what stays
// are in the spans, and each true kind is in the sum of kinds.
func TestTruthIsInside(t *testing.T) {
	r := rand.New(rand.NewSource(12))
	done := 0
	for n := range 3000 {
		c, p := anyCurve(r, []int{200, 3000}[n%2]), anyPot(r, []int{20, 300, 100000}[n%3])
		p.Volume++ // so that some is left
		amounts := anyAmounts(r, 1+r.Intn(4), p.Volume-1)
		l, _, e := still.Run(c, p, amounts)
		if e != api.OK {
			continue
		}
		cut := r.Intn(10001)
		end := r.Intn(cut + 1)
		sums, _ := still.Cuts(c, p, amounts, r.Intn(2), cut, end)
		x, now := truth{rat(p.Volume), anyIn(r, p.Alcohol)}, p
		for i, d := range amounts {
			alcohol, ok := x.draw(r, c, d)
			if !ok {
				break
			}
			_, now, _ = still.Draw(c, now, d)
			if !holds(l[i].Alcohol, alcohol) || !holds(now.Alcohol, x.alcohol) || rat(now.Volume).Cmp(x.volume) != 0 {
				t.Fatal(c, p, amounts, i, l[i], now, alcohol, x)
			}
			checkKind(t, over(times(alcohol, rat(10000)), rat(d)), cut, end, sums[i])
			done++
		}
	}
	checkDone(t, done)
}

// P4.9: what was drawn and what stays can be what there was, and leaves a valid pot.
func TestTogether(t *testing.T) {
	r := rand.New(rand.NewSource(13))
	done := 0
	for n := range 3000 {
		c, p := anyCurve(r, []int{0, 50, 5000}[n%3]), anyPot(r, []int{5, 300, api.MaxPot}[n%3])
		for _, d := range anyAmounts(r, 5, p.Volume) {
			got, then, e := still.Draw(c, p, d)
			if e != api.OK {
				continue
			}
			a, b := got.Alcohol, then.Alcohol
			if got.Amount != d || then.Volume != p.Volume-d || !inside(a, span(0, d)) || !inside(b, span(0, then.Volume)) ||
				!inside(p.Alcohol, span(a.Lo+b.Lo, a.Hi+b.Hi)) {
				t.Fatal(c, p, d, got, then)
			}
			p = then
			done++
		}
	}
	checkDone(t, done)
}

// P4.9: an end of a span is not farther off than the rounding, where all is known.
func TestExact(t *testing.T) {
	l, end, e := still.Run(plainCurve(), potOf(1000000, 250000, 250000), []int{1000, 100000})
	if !slices.Equal(l, []api.Drawn{drawn(1000, 250, 250), drawn(100000, 25000, 25000)}) || end != potOf(899000, 224750, 224750) || e != api.OK {
		t.Error(l, end, e)
	}
}

// P4.9: narrower pots leave spans that are not wider.
func TestNarrower(t *testing.T) {
	r := rand.New(rand.NewSource(14))
	done := 0
	for n := range 4000 {
		c, p := anyCurve(r, []int{0, 50, 5000}[n%3]), anyPot(r, []int{5, 300, 100000, api.MaxPot}[n%4])
		amounts := anyAmounts(r, 1+r.Intn(5), p.Volume)
		wide, wideEnd, e := still.Run(c, p, amounts)
		if e != api.OK {
			continue
		}
		better := api.Pot{Volume: p.Volume, Alcohol: narrower(r, p.Alcohol)}
		narrow, narrowEnd, e := still.Run(c, better, amounts)
		if e != api.OK || !inside(narrowEnd.Alcohol, wideEnd.Alcohol) {
			t.Fatal(c, p, better, amounts, wideEnd, narrowEnd, e)
		}
		for i := range wide {
			if !inside(narrow[i].Alcohol, wide[i].Alcohol) {
				t.Fatal(c, p, better, amounts, wide, narrow)
			}
		}
		done++
	}
	checkDone(t, done)
}

// R4: arguments are only read, and results are new memory.
func TestMemory(t *testing.T) {
	c, p, amounts := exampleCurve(), examplePot(), []int{1000, 1000}
	all := func() ([]api.Drawn, []int) {
		l, _, _ := still.Run(c, p, amounts)
		sums, _ := still.Cuts(c, p, amounts, 0, 4000, 1000)
		still.Check(c)
		still.Vapour(c, one(1000))
		still.Draw(c, p, 1000)
		still.Heart(c, p, amounts, 0, 1)
		still.Plates(c, 1000, 9000)
		return l, sums
	}
	l, sums := all()
	l[0], l[1], sums[0], sums[1] = api.Drawn{}, api.Drawn{}, -1, -1
	l, sums = all()
	if !slices.Equal(l, []api.Drawn{drawn(1000, 266, 520), drawn(1000, 34, 425)}) || !slices.Equal(sums, []int{6, 14}) {
		t.Error(l, sums)
	}
	if !reflect.DeepEqual(c, exampleCurve()) || p != examplePot() || !slices.Equal(amounts, []int{1000, 1000}) {
		t.Error(c, p, amounts)
	}
}

// P10: calls at the same time do not disturb each other, and have the same results; a
// run that ended with an error leaves nothing behind.
func TestAgain(t *testing.T) {
	c, p, amounts := exampleCurve(), examplePot(), []int{1000, 1000}
	want, wantEnd, _ := still.Run(c, p, amounts)
	var wait sync.WaitGroup
	for range 8 {
		wait.Go(func() {
			for range 100 {
				none, noEnd, short := still.Run(c, p, []int{1000, 9001})
				l, end, e := still.Run(c, p, amounts)
				if !slices.Equal(l, want) || end != wantEnd || e != api.OK || len(none) != 0 || noEnd != (api.Pot{}) || short != api.ErrShort {
					t.Error(l, end, e, none, noEnd, short)
				}
			}
		})
	}
	wait.Wait()
}
