package strength_test

import (
	"math/big"
	"math/rand"
	"testing"

	"wormtub/api"
	"wormtub/strength"
)

// P1.9: there and back, with true numbers that need not be integers.
func TestThereAndBack(t *testing.T) {
	r := rand.New(rand.NewSource(9))
	for range 4000 {
		x := anyTable(r)
		strongs, temps := part(r, all(x.Strengths)), part(r, all(x.Temps))
		strong, temp := real(r, strongs), real(r, temps)
		true1 := at(x, x.Shown, temp, strong)
		if s, e := strength.Shown(x, strongs, temps); e != api.OK || !holds(s, true1) {
			t.Fatal("Shown", x, strongs, temps, s, e)
		}
		seen := outward(true1, true1)
		s, e := strength.Strength(x, seen, temps)
		if e != api.OK || !holds(s, strong) {
			t.Fatal("Strength", x, seen, temps, s, e)
		}
		amounts := anySpan(r, 0, 1<<39)
		amount := real(r, amounts)
		v, s, p, e := strength.Measured(x, amounts, seen, temps)
		trueV := quo(mul(amount, rat(api.Litre, 1)), at(x, x.Room, temp, strong))
		trueP := mul(trueV, quo(strong, rat(api.MaxStrength, 1)))
		if e != api.OK || !holds(v, trueV) || !holds(s, strong) || !holds(p, trueP) {
			t.Fatal("Measured", x, amounts, seen, temps, v, s, p, e)
		}
	}
}

// P1.9: narrower spans have results that are not wider.
func TestNarrower(t *testing.T) {
	r := rand.New(rand.NewSource(10))
	for range 4000 {
		x := anyTable(r)
		strong, temp, amount := part(r, all(x.Strengths)), part(r, all(x.Temps)), anySpan(r, 0, 1<<39)
		less, cooler, fewer := part(r, strong), part(r, temp), part(r, amount)
		wide, _ := strength.Shown(x, strong, temp)
		if s, e := strength.Shown(x, less, cooler); e != api.OK || !inside(s, wide) {
			t.Fatal("Shown", x, strong, temp, less, cooler, wide, s, e)
		}
		seen := part(r, wide)
		all, _ := strength.Strength(x, wide, temp)
		if s, e := strength.Strength(x, seen, cooler); e == api.OK && !inside(s, all) {
			t.Fatal("Strength", x, wide, temp, seen, cooler, all, s, e)
		}
		volume, _ := strength.Volume(x, amount, strong, temp)
		if s, e := strength.Volume(x, fewer, less, cooler); e != api.OK || !inside(s, volume) {
			t.Fatal("Volume", x, amount, strong, temp, volume, s, e)
		}
		pure, _ := strength.Pure(amount, strong)
		if s, e := strength.Pure(fewer, less); e != api.OK || !inside(s, pure) {
			t.Fatal("Pure", amount, strong, pure, s, e)
		}
		checkNarrowerMeasured(t, x, [2]api.Span{amount, fewer}, [2]api.Span{wide, seen}, [2]api.Span{temp, cooler})
	}
}

// checkNarrowerMeasured compares what is measured with wide spans and with narrow ones.
func checkNarrowerMeasured(t *testing.T, x api.Table, amount, shown, temp [2]api.Span) {
	t.Helper()
	v, s, p, e := strength.Measured(x, amount[0], shown[0], temp[0])
	v1, s1, p1, e1 := strength.Measured(x, amount[1], shown[1], temp[1])
	if e != api.OK || e1 == api.OK && (!inside(v1, v) || !inside(s1, s) || !inside(p1, p)) {
		t.Fatal("Measured", x, amount, shown, temp, v, s, p, e, v1, s1, p1, e1)
	}
}

// P1.9: the same of mixtures.
func TestNarrowerMix(t *testing.T) {
	r := rand.New(rand.NewSource(11))
	for range 4000 {
		l, shrink := anyParts(r), r.Intn(api.MaxShrink+1)
		wide, e := strength.Mix(l, shrink)
		if e != api.OK {
			continue
		}
		for i, p := range l {
			l[i] = api.Part{Amount: part(r, p.Amount), Strength: part(r, p.Strength)}
		}
		narrow, e := strength.Mix(l, r.Intn(shrink+1))
		if e != api.OK || !inside(narrow.Amount, wide.Amount) || !inside(narrow.Strength, wide.Strength) {
			t.Fatal(l, shrink, wide, narrow, e)
		}
	}
}

// shows tells whether some strength from a to b shows a number of shown at some
// temperature of temp. What is shown rises with the strength and goes on without a
// gap, so it is enough to look at the ends.
func shows(x api.Table, a, b *big.Rat, shown, temp api.Span) bool {
	var least, greatest *big.Rat
	for _, y := range stops(x.Temps, temp) {
		if v := at(x, x.Shown, y, a); least == nil || v.Cmp(least) < 0 {
			least = v
		}
		if v := at(x, x.Shown, y, b); greatest == nil || v.Cmp(greatest) > 0 {
			greatest = v
		}
	}
	return least.Cmp(rat(shown.Hi, 1)) <= 0 && greatest.Cmp(rat(shown.Lo, 1)) >= 0
}

// P1.10: less than one unit away from both ends some strength shows what is shown.
func TestStrengthTight(t *testing.T) {
	r := rand.New(rand.NewSource(12))
	unit := sub(rat(1, 1), rat(1, 1<<60))
	tested := 0
	for range 4000 {
		x := anyTable(r)
		shown, temp := near(r, x), part(r, all(x.Temps))
		s, e := strength.Strength(x, shown, temp)
		if e != api.OK {
			continue
		}
		tested++
		ends := all(x.Strengths)
		lo, hi := rat(s.Lo, 1), rat(s.Hi, 1)
		if !inside(s, ends) || s.Lo > s.Hi {
			t.Fatal(x, shown, temp, s)
		}
		// An end at the far end of the table has only itself.
		up, down := add(lo, unit), sub(hi, unit)
		if s.Lo == ends.Hi {
			up = lo
		}
		if s.Hi == ends.Lo {
			down = hi
		}
		if s.Lo != ends.Lo && !shows(x, lo, up, shown, temp) {
			t.Fatal("Lo", x, shown, temp, s)
		}
		if s.Hi != ends.Hi && !shows(x, down, hi, shown, temp) {
			t.Fatal("Hi", x, shown, temp, s)
		}
	}
	if tested < 2000 {
		t.Error(tested)
	}
}
