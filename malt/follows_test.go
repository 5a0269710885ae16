package malt_test

import (
	"math/rand"
	"reflect"
	"slices"
	"sync"
	"testing"

	"wormtub/api"
	"wormtub/malt"
)

// truth is what is true: grams of dry matter and of water, milligrams of phenols, and
// what was taken up and lost.
type truth struct{ dry, water, phenol, taken, gas, roots, steam int }

// in tells whether all that is true is in the spans of what is known.
func (x truth) in(m api.Malt, l api.MaltLoss) bool {
	for i, n := range []int{x.dry, x.water, x.phenol, x.taken, x.gas, x.roots, x.steam} {
		if !holds(all(m, l)[i], n) {
			return false
		}
	}
	return true
}

// total is what comes to the same before and behind any steps.
func (x truth) total() int { return x.dry + x.water + x.gas + x.roots + x.steam - x.taken }

// numbers returns the whole numbers that the number of a step may be, truly.
func (x truth) numbers(s api.MaltStep) api.Span {
	switch s.Kind {
	case api.Sprout:
		return span(ceil(part(s.A, x.dry, api.Whole)), floor(part(s.B, x.dry, api.Whole)))
	case api.Kiln:
		return span(ceil(part(s.A, x.dry, api.Whole)), min(floor(part(s.B, x.dry, api.Whole)), x.water))
	case api.Peat:
		return span(ceil(part(s.A, x.dry, 1000)), floor(part(s.B, x.dry, 1000)))
	case api.Sieve:
		return span(s.A, min(s.B, x.dry))
	case api.Weigh:
		return span(max(s.A, x.dry+x.water), min(s.B, x.dry+x.water))
	}
	return span(s.A, s.B)
}

// after returns what is true behind a step with the number n.
func (x truth) after(kind, n int) truth {
	switch kind {
	case api.Steep:
		x.water, x.taken = x.water+n, x.taken+n
	case api.Sprout:
		x.dry, x.gas = x.dry-n, x.gas+n
	case api.Kiln:
		x.steam, x.water = x.steam+x.water-n, n
	case api.Peat:
		x.phenol += n
	case api.Sieve:
		x.dry, x.roots = x.dry-n, x.roots+n
	}
	return x
}

// trueStep returns a step that is possible, and what is true behind it.
func (x truth) trueStep(r *rand.Rand) (api.MaltStep, truth) {
	for {
		s := anyStep(r, r.Intn(6), 1000)
		if s.Kind == api.Peat {
			s = step(s.Kind, s.A%500, s.A%500+r.Intn(100))
		}
		if s.Kind == api.Weigh {
			w := around(r, x.dry+x.water, api.MaxAmount)
			s = step(s.Kind, w.Lo, w.Hi)
		}
		if n := x.numbers(s); n.Lo <= n.Hi {
			return s, x.after(s.Kind, n.Lo+r.Intn(n.Hi-n.Lo+1))
		}
	}
}

// anyTruth returns true amounts up to most.
func anyTruth(r *rand.Rand, most int) truth {
	return truth{dry: r.Intn(most + 1), water: r.Intn(most + 1), phenol: r.Intn(most + 1)}
}

// P2.6: whatever is true is in the spans, and nothing comes or goes without a name.
func TestTruthIsInside(t *testing.T) {
	r := rand.New(rand.NewSource(5))
	for n := range 20000 {
		x := anyTruth(r, []int{2, 20, 3000}[n%3])
		m := api.Malt{Dry: around(r, x.dry, 5000), Water: around(r, x.water, 5000), Phenol: around(r, x.phenol, 5000)}
		before, begin := x, m
		var l []api.MaltStep
		for range 1 + r.Intn(8) {
			s, behind := x.trueStep(r)
			l, x = append(l, s), behind
		}
		end, lost, i, e := malt.Play(m, l)
		if e != api.OK || i != len(l) || !x.in(end, lost) {
			t.Fatal(before, x, m, l, end, lost, i, e)
		}
		if x.total() != before.total() {
			t.Fatal("the test loses something", before, x, l)
		}
		checkTotals(t, begin, end, lost)
		checkParts(t, x, end)
	}
}

// checkTotals checks that what is known allows that nothing comes or goes without a name.
func checkTotals(t *testing.T, m, end api.Malt, lost api.MaltLoss) {
	t.Helper()
	in := add(add(m.Dry, m.Water), lost.Taken)
	out := add(add(end.Dry, end.Water), add(lost.Gas, add(lost.Roots, lost.Steam)))
	if in.Lo > out.Hi || out.Lo > in.Hi {
		t.Fatal(m, end, lost)
	}
}

// checkParts checks that the true moisture, and the true phenols, are in their spans.
func checkParts(t *testing.T, x truth, m api.Malt) {
	t.Helper()
	if s, e := malt.Moisture(m); e == api.OK {
		n := part(api.Whole, x.water, x.water+x.dry)
		if floor(n) < s.Lo || ceil(n) > s.Hi {
			t.Fatal("Moisture", x, m, s)
		}
	} else if m.Dry.Lo+m.Water.Lo > 0 {
		t.Fatal("Moisture", m, e)
	}
	if s, e := malt.Phenols(m); e == api.OK {
		n := part(1000, x.phenol, x.dry)
		if floor(n) < s.Lo || ceil(n) > s.Hi {
			t.Fatal("Phenols", x, m, s)
		}
	} else if m.Dry.Lo > 0 {
		t.Fatal("Phenols", m, e)
	}
}

// P2.6: with lesser spans of malt no span becomes wider.
func TestLesserSpans(t *testing.T) {
	r := rand.New(rand.NewSource(6))
	for n := range 20000 {
		x := anyTruth(r, []int{2, 20, 3000}[n%3])
		m := api.Malt{Dry: around(r, x.dry, 5000), Water: around(r, x.water, 5000), Phenol: around(r, x.phenol, 5000)}
		less := api.Malt{Dry: between(r, m.Dry, x.dry), Water: between(r, m.Water, x.water), Phenol: between(r, m.Phenol, x.phenol)}
		var l []api.MaltStep
		for range 1 + r.Intn(8) {
			s, behind := x.trueStep(r)
			l, x = append(l, s), behind
		}
		wide, wideLost, _, e := malt.Play(m, l)
		narrow, narrowLost, _, lessE := malt.Play(less, l)
		if e != api.OK || lessE != api.OK {
			t.Fatal(m, less, l, e, lessE)
		}
		for i, s := range all(narrow, narrowLost) {
			if !inside(s, all(wide, wideLost)[i]) {
				t.Fatal(m, less, l, wide, wideLost, narrow, narrowLost)
			}
		}
		checkLesserParts(t, narrow, wide)
	}
}

// checkLesserParts checks that moisture and phenols of what is known better are not wider.
func checkLesserParts(t *testing.T, narrow, wide api.Malt) {
	t.Helper()
	for _, f := range []func(api.Malt) (api.Span, api.Errno){malt.Moisture, malt.Phenols} {
		s, e := f(wide)
		less, lessE := f(narrow)
		if e == api.OK && (lessE != api.OK || !inside(less, s)) {
			t.Fatal(narrow, wide, less, lessE, s, e)
		}
	}
}

// P2.6: a step with a lesser span does not make a span wider.
func TestLesserSteps(t *testing.T) {
	r := rand.New(rand.NewSource(7))
	for range 20000 {
		m := anyMalt(r, 300)
		s := anyStep(r, r.Intn(6), 600)
		less := between(r, span(s.A, s.B), s.A+r.Intn(s.B-s.A+1))
		wide, wideLost, _, e := malt.Play(m, []api.MaltStep{s})
		narrow, narrowLost, _, lessE := malt.Play(m, []api.MaltStep{step(s.Kind, less.Lo, less.Hi)})
		if lessE != api.OK {
			continue
		}
		if e != api.OK {
			t.Fatal(m, s, less, e)
		}
		for i, k := range all(narrow, narrowLost) {
			if !inside(k, all(wide, wideLost)[i]) {
				t.Fatal(m, s, less, wide, wideLost, narrow, narrowLost)
			}
		}
	}
}

// P2.5: arguments are only read, and no two results share memory.
func TestMemory(t *testing.T) {
	l := []api.MaltStep{step(api.Steep, 700, 720), step(api.Sprout, 500, 800), step(api.Weigh, 0, 0)}
	was := slices.Clone(l)
	malt.Play(example(), l)
	malt.Play(example(), l[:2])
	if !slices.Equal(l, was) {
		t.Error(l)
	}
	lots := []api.Barley{plain(10, 100, 7), plain(10, 100, 5), lot(one(10), one(100), 9, 6)}
	wasLots := slices.Clone(lots)
	first, _, _ := malt.Grist(lots, 5, 20, 100)
	first[0], first[1] = -1, -2
	second, _, _ := malt.Grist(lots, 5, 20, 100)
	if !slices.Equal(second, []int{0, 1}) || !reflect.DeepEqual(lots, wasLots) {
		t.Error(second, lots)
	}
}

// P2.5 and P10: calls at the same time do not disturb each other, and have the same results.
func TestAgain(t *testing.T) {
	l := []api.MaltStep{step(api.Steep, 700, 720), step(api.Sprout, 500, 800), step(api.Kiln, 450, 500)}
	m, lost, i, e := malt.Play(example(), l)
	none := append(slices.Clone(l), step(api.Weigh, 0, 0))
	var wait sync.WaitGroup
	for range 8 {
		wait.Go(func() {
			for range 100 {
				m2, lost2, i2, e2 := malt.Play(example(), l)
				_, _, i3, e3 := malt.Play(example(), none)
				if m2 != m || lost2 != lost || i2 != i || e2 != e || i3 != 3 || e3 != api.ErrNone {
					t.Error(m2, lost2, i2, e2, i3, e3)
				}
			}
		})
	}
	wait.Wait()
}
