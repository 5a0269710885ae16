package strength_test

import (
	"math"
	"math/big"
	"math/rand"
	"slices"
	"testing"

	"wormtub/api"
	"wormtub/strength"
)

// badAmounts and badStrengths are spans that amounts and strengths cannot be.
func badAmounts() []api.Span {
	return []api.Span{
		one(-1), span(-1, 5), one(api.MaxAmount + 1), span(5, api.MaxAmount+1), span(5, 4),
		span(math.MinInt, math.MaxInt), span(math.MaxInt, math.MinInt), one(math.MaxInt),
	}
}

func badStrengths() []api.Span {
	return []api.Span{
		one(-1), span(-1, 5), one(api.MaxStrength + 1), span(5, api.MaxStrength+1), span(5, 4),
		span(math.MinInt, math.MaxInt), span(math.MaxInt, math.MinInt), one(math.MaxInt),
	}
}

// P1.5: the least and the greatest pure alcohol.
func TestPure(t *testing.T) {
	for _, x := range []struct{ amount, strong, want api.Span }{
		{span(1000, 1001), span(4000, 4001), span(400, 401)},
		{one(3), one(5000), span(1, 2)},
		{one(2), one(5000), one(1)},
		{one(1), one(1), span(0, 1)},
		{one(1), one(9999), span(0, 1)},
		{one(0), span(0, 10000), one(0)},
		{span(0, 7), one(0), one(0)},
		{span(0, 7), span(0, 10000), span(0, 7)},
		{one(api.MaxAmount), one(api.MaxStrength), one(api.MaxAmount)},
		{one(api.MaxAmount), one(9999), span(1099401676613, 1099401676614)},
		{span(10, api.MaxAmount), span(1000, 10000), span(1, api.MaxAmount)},
	} {
		if s, e := strength.Pure(x.amount, x.strong); s != x.want || e != api.OK {
			t.Error(x, s, e)
		}
	}
	for _, a := range badAmounts() {
		if s, e := strength.Pure(a, one(5000)); s != (api.Span{}) || e != api.ErrArg {
			t.Error(a, s, e)
		}
	}
	for _, b := range badStrengths() {
		if s, e := strength.Pure(one(5), b); s != (api.Span{}) || e != api.ErrArg {
			t.Error(b, s, e)
		}
	}
}

// two returns the parts of the document's example.
func two() []api.Part {
	return []api.Part{{Amount: one(1000), Strength: one(6000)}, {Amount: one(1000), Strength: one(4000)}}
}

// P1.7: the examples, and what is rounded.
func TestMixExamples(t *testing.T) {
	for _, x := range []struct {
		l      []api.Part
		shrink int
		want   api.Part
	}{
		{two(), 0, api.Part{Amount: one(2000), Strength: one(5000)}},
		{two(), 100, api.Part{Amount: span(1980, 2000), Strength: span(5000, 5051)}},
		{two(), 1000, api.Part{Amount: span(1800, 2000), Strength: span(5000, 5556)}},
		// The strength is at most MaxStrength.
		{[]api.Part{{Amount: one(10), Strength: one(10000)}}, 1000, api.Part{Amount: span(9, 10), Strength: one(10000)}},
		{[]api.Part{{Amount: span(100, 200), Strength: span(3000, 6000)}}, 0, api.Part{Amount: span(100, 200), Strength: span(1500, 10000)}},
		// The pure alcohol of each part is rounded, not that of their sum.
		{[]api.Part{{Amount: one(3), Strength: one(5000)}, {Amount: one(3), Strength: one(5000)}}, 0, api.Part{Amount: one(6), Strength: span(3333, 6667)}},
		// The least amount, 15 less a tenth of it, is a divisor before it is rounded.
		{[]api.Part{{Amount: one(15), Strength: one(2000)}}, 1000, api.Part{Amount: span(13, 15), Strength: span(2000, 2223)}},
		{[]api.Part{{Amount: one(1), Strength: one(0)}}, 1, api.Part{Amount: span(0, 1), Strength: one(0)}},
		{[]api.Part{{Amount: span(1, 4), Strength: one(0)}}, 1000, api.Part{Amount: span(0, 4), Strength: one(0)}},
		// Parts of which there may be nothing are parts.
		{[]api.Part{{Amount: span(0, 100), Strength: one(10000)}, {Amount: one(100), Strength: one(0)}}, 0, api.Part{Amount: span(100, 200), Strength: span(0, 10000)}},
		{[]api.Part{{Amount: one(0), Strength: one(10000)}, {Amount: one(100), Strength: one(100)}}, 0, api.Part{Amount: one(100), Strength: one(100)}},
		{[]api.Part{{Amount: one(api.MaxAmount), Strength: one(5000)}}, 0, api.Part{Amount: one(api.MaxAmount), Strength: one(5000)}},
		{[]api.Part{{Amount: span(1, api.MaxAmount), Strength: span(1, 10000)}}, 1000, api.Part{Amount: span(0, api.MaxAmount), Strength: span(0, 10000)}},
	} {
		if p, e := strength.Mix(x.l, x.shrink); p != x.want || e != api.OK {
			t.Error(x, p, e)
		}
	}
	many := slices.Repeat([]api.Part{{Amount: one(10), Strength: one(7000)}}, api.MaxParts)
	if p, e := strength.Mix(many, 0); p != (api.Part{Amount: one(640), Strength: one(7000)}) || e != api.OK {
		t.Error(p, e)
	}
	huge := slices.Repeat([]api.Part{{Amount: one(api.MaxAmount / api.MaxParts), Strength: one(10000)}}, api.MaxParts)
	if p, e := strength.Mix(huge, 0); p != (api.Part{Amount: one(api.MaxAmount), Strength: one(10000)}) || e != api.OK {
		t.Error(p, e)
	}
}

// P1.7: ErrLong, ErrArg, ErrRange, ErrRefuse, ErrNone, in this order.
func TestMixErrors(t *testing.T) {
	none := api.Part{Amount: one(0), Strength: one(5000)}
	full := api.Part{Amount: one(api.MaxAmount), Strength: one(5000)}
	bad := api.Part{Amount: one(-1), Strength: one(5000)}
	for _, x := range []struct {
		l      []api.Part
		shrink int
		e      api.Errno
	}{
		{slices.Repeat([]api.Part{bad}, api.MaxParts+1), -1, api.ErrLong},
		{slices.Repeat([]api.Part{none}, api.MaxParts+1), 0, api.ErrLong},
		{slices.Repeat([]api.Part{none}, api.MaxParts), 0, api.ErrNone},
		{slices.Repeat([]api.Part{full}, api.MaxParts), 0, api.ErrRefuse},
		{[]api.Part{bad}, -1, api.ErrArg},
		{[]api.Part{full, full, bad}, 0, api.ErrArg},
		{[]api.Part{full, full}, -1, api.ErrRange},
		{[]api.Part{full, full}, api.MaxShrink + 1, api.ErrRange},
		{nil, -1, api.ErrRange},
		{nil, math.MaxInt, api.ErrRange},
		{nil, math.MinInt, api.ErrRange},
		{nil, 0, api.ErrNone},
		{[]api.Part{}, 0, api.ErrNone},
		{[]api.Part{none}, 0, api.ErrNone},
		{[]api.Part{{Amount: span(0, 5), Strength: one(5000)}}, 0, api.ErrNone},
		{[]api.Part{full, {Amount: one(1), Strength: one(0)}}, 0, api.ErrRefuse},
		{[]api.Part{full, {Amount: span(0, 1), Strength: one(0)}}, 1000, api.ErrRefuse},
		{[]api.Part{{Amount: span(0, api.MaxAmount)}, {Amount: span(0, 1)}}, 0, api.ErrRefuse},
	} {
		if p, e := strength.Mix(x.l, x.shrink); p != (api.Part{}) || e != x.e {
			t.Error(len(x.l), x.shrink, p, e, x.e)
		}
	}
	for _, a := range badAmounts() {
		l := append(two(), api.Part{Amount: a, Strength: one(5000)})
		if p, e := strength.Mix(l, 0); p != (api.Part{}) || e != api.ErrArg {
			t.Error(a, p, e)
		}
	}
	for _, b := range badStrengths() {
		l := append(two(), api.Part{Amount: one(5), Strength: b})
		if p, e := strength.Mix(l, 0); p != (api.Part{}) || e != api.ErrArg {
			t.Error(b, p, e)
		}
	}
}

// rightMix returns what Mix is to return.
func rightMix(l []api.Part, shrink int) (api.Part, api.Errno) {
	var amount, alcohol api.Span
	for _, p := range l {
		amount = span(amount.Lo+p.Amount.Lo, amount.Hi+p.Amount.Hi)
		alcohol.Lo += floor(mul(rat(p.Amount.Lo, 1), rat(p.Strength.Lo, api.MaxStrength)))
		alcohol.Hi += ceil(mul(rat(p.Amount.Hi, 1), rat(p.Strength.Hi, api.MaxStrength)))
	}
	if amount.Hi > api.MaxAmount {
		return api.Part{}, api.ErrRefuse
	}
	if amount.Lo == 0 {
		return api.Part{}, api.ErrNone
	}
	least := mul(rat(amount.Lo, 1), rat(10000-shrink, 10000))
	whole := rat(api.MaxStrength, 1)
	strong := outward(mul(whole, rat(alcohol.Lo, amount.Hi)), mul(whole, quo(rat(alcohol.Hi, 1), least)))
	return api.Part{Amount: span(floor(least), amount.Hi), Strength: span(strong.Lo, min(strong.Hi, api.MaxStrength))}, api.OK
}

// anyParts returns some parts, small ones or great ones.
func anyParts(r *rand.Rand) []api.Part {
	most := []int{3, 50, 5000, 1 << 30, 1 << 40}[r.Intn(5)]
	var l []api.Part
	for range r.Intn(6) {
		l = append(l, api.Part{Amount: anySpan(r, 0, most), Strength: anySpan(r, 0, api.MaxStrength)})
	}
	return l
}

// P1.7: parts of all kinds.
func TestAnyMix(t *testing.T) {
	r := rand.New(rand.NewSource(4))
	for range 20000 {
		l, shrink := anyParts(r), r.Intn(api.MaxShrink+1)
		want, wantE := rightMix(l, shrink)
		if p, e := strength.Mix(l, shrink); p != want || e != wantE {
			t.Fatal(l, shrink, p, e, want, wantE)
		}
	}
}

// P1.11: the order of parts makes no difference.
func TestMixOrder(t *testing.T) {
	r := rand.New(rand.NewSource(5))
	for range 5000 {
		l, shrink := anyParts(r), r.Intn(api.MaxShrink+1)
		p, e := strength.Mix(l, shrink)
		r.Shuffle(len(l), func(i, j int) { l[i], l[j] = l[j], l[i] })
		if q, f := strength.Mix(l, shrink); q != p || f != e {
			t.Fatal(l, shrink, p, q, e, f)
		}
	}
}

// P1.11: a mixture of true parts, which shrinks by a true share, is within what Mix
// returns.
func TestMixTruth(t *testing.T) {
	r := rand.New(rand.NewSource(6))
	for range 5000 {
		l, shrink := anyParts(r), r.Intn(api.MaxShrink+1)
		mix, e := strength.Mix(l, shrink)
		if e != api.OK {
			continue
		}
		amount, alcohol := new(big.Rat), new(big.Rat)
		for _, p := range l {
			a, s := real(r, p.Amount), real(r, p.Strength)
			amount = add(amount, a)
			alcohol = add(alcohol, mul(a, mul(s, rat(1, api.MaxStrength))))
		}
		amount = mul(amount, sub(rat(1, 1), mul(real(r, span(0, shrink)), rat(1, 10000))))
		strong := mul(quo(alcohol, amount), rat(api.MaxStrength, 1))
		if strong.Cmp(rat(api.MaxStrength, 1)) > 0 { // no true spirit shrinks as much as that
			continue
		}
		if !holds(mix.Amount, amount) || !holds(mix.Strength, strong) {
			t.Fatal(l, shrink, mix, amount, strong)
		}
	}
}

// P1.11: a part alone, of one amount, is its own mixture, if nothing shrinks and the
// pure alcohol of both ends is a whole number; it is within its mixture anyway.
func TestMixAlone(t *testing.T) {
	r := rand.New(rand.NewSource(7))
	for range 5000 {
		p := api.Part{Amount: one(10000 * (1 + r.Intn(1<<26))), Strength: anySpan(r, 0, api.MaxStrength)}
		if q, e := strength.Mix([]api.Part{p}, 0); q != p || e != api.OK {
			t.Fatal(p, q, e)
		}
		p.Amount = one(1 + r.Intn(30000))
		q, e := strength.Mix([]api.Part{p}, 0)
		if q.Amount != p.Amount || !inside(p.Strength, q.Strength) || e != api.OK {
			t.Fatal(p, q, e)
		}
	}
}

// P1.8: the examples, and the limits of what is returned.
func TestWaterExamples(t *testing.T) {
	for _, x := range []struct {
		p         api.Part
		target, w int
	}{
		{two()[0], 4000, 500},
		{api.Part{Amount: span(990, 1000), Strength: span(6000, 6100)}, 4000, 495},
		{two()[0], 6000, 0},
		{two()[0], 5999, 0},
		{two()[0], 7, 856142},
		{two()[0], 1, 5999000},
		{api.Part{Amount: span(0, 1000), Strength: one(6000)}, 1, 0},
		{api.Part{Amount: one(1), Strength: one(10000)}, 10000, 0},
		{api.Part{Amount: one(api.MaxAmount), Strength: one(6000)}, 1, 0},
		{api.Part{Amount: one(api.MaxAmount - 7), Strength: one(6000)}, 1, 7},
		{api.Part{Amount: span(1<<39, api.MaxAmount-7), Strength: one(6000)}, 1, 7},
		{api.Part{Amount: one(1 << 39), Strength: one(10000)}, 5000, 1 << 39},
		{api.Part{Amount: one(1 << 39), Strength: one(10000)}, 5001, (1 << 39) * 4999 / 5001},
	} {
		if w, e := strength.Water(x.p, x.target); w != x.w || e != api.OK {
			t.Error(x, w, e)
		}
	}
}

// P1.8: ErrArg, ErrRange, ErrRefuse, in this order.
func TestWaterErrors(t *testing.T) {
	p := api.Part{Amount: one(1000), Strength: span(5000, 6000)}
	for _, x := range []struct {
		p      api.Part
		target int
		e      api.Errno
	}{
		{p, 0, api.ErrRange}, {p, -1, api.ErrRange}, {p, api.MaxStrength + 1, api.ErrRange},
		{p, math.MinInt, api.ErrRange}, {p, math.MaxInt, api.ErrRange},
		{p, 5001, api.ErrRefuse}, {p, 6000, api.ErrRefuse}, {p, api.MaxStrength, api.ErrRefuse},
		{api.Part{}, 1, api.ErrRefuse}, {api.Part{}, 0, api.ErrRange},
	} {
		if w, e := strength.Water(x.p, x.target); w != 0 || e != x.e {
			t.Error(x, w, e)
		}
	}
	if w, e := strength.Water(p, 5000); w != 0 || e != api.OK {
		t.Error(w, e)
	}
	for _, target := range []int{0, 1, 5001} {
		for _, a := range badAmounts() {
			if w, e := strength.Water(api.Part{Amount: a, Strength: one(5000)}, target); w != 0 || e != api.ErrArg {
				t.Error(a, w, e)
			}
		}
		for _, b := range badStrengths() {
			if w, e := strength.Water(api.Part{Amount: one(5), Strength: b}, target); w != 0 || e != api.ErrArg {
				t.Error(b, w, e)
			}
		}
	}
}

// P1.8 and P1.12: with the water that is returned the strength is surely right; with a
// millilitre more it may not be, or there is no room.
func TestWaterTight(t *testing.T) {
	r := rand.New(rand.NewSource(8))
	right := func(p api.Part, w, target int) bool {
		for _, a := range []int{p.Amount.Lo, p.Amount.Hi} {
			for _, s := range []int{p.Strength.Lo, p.Strength.Hi} {
				if mul(rat(a, 1), rat(s, 1)).Cmp(mul(rat(target, 1), rat(a+w, 1))) < 0 {
					return false
				}
			}
		}
		return true
	}
	for range 20000 {
		most := []int{3, 5000, 1 << 40}[r.Intn(3)]
		p := api.Part{Amount: anySpan(r, 0, most), Strength: anySpan(r, 1, api.MaxStrength)}
		target := 1 + r.Intn(p.Strength.Lo)
		w, e := strength.Water(p, target)
		if e != api.OK || w < 0 || w > api.MaxAmount-p.Amount.Hi || !right(p, w, target) {
			t.Fatal(p, target, w, e)
		}
		if w < api.MaxAmount-p.Amount.Hi && right(p, w+1, target) {
			t.Fatal(p, target, w, "could be more")
		}
	}
}
