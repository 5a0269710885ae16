package malt_test

import (
	"math/rand"
	"slices"
	"testing"

	"wormtub/api"
	"wormtub/malt"
)

// P2.1: the examples, one after the other.
func TestPlayExamples(t *testing.T) {
	want, lost := example(), api.MaltLoss{}
	var l []api.MaltStep
	for _, x := range []struct {
		s      api.MaltStep
		change func()
	}{
		{step(api.Steep, 700, 720), func() { want.Water, lost.Taken = span(850, 880), span(700, 720) }},
		{step(api.Sprout, 500, 800), func() { want.Dry, lost.Gas = span(920, 959), span(50, 80) }},
		{step(api.Peat, 30, 40), func() { want.Phenol = span(28, 38) }},
		{step(api.Kiln, 450, 500), func() { want.Water, lost.Steam = span(42, 47), span(803, 838) }},
		{step(api.Sieve, 30, 40), func() { want.Dry, lost.Roots = span(880, 929), span(30, 40) }},
		{step(api.Weigh, 930, 940), func() { want.Dry = span(883, 898) }},
	} {
		l = append(l, x.s)
		x.change()
		m, sums, i, e := malt.Play(example(), l)
		if m != want || sums != lost || i != len(l) || e != api.OK {
			t.Error(x.s, m, sums, i, e)
		}
	}
}

// P2.1: without steps malt stays as it is.
func TestPlayNothing(t *testing.T) {
	full := api.Malt{Dry: one(api.MaxAmount), Water: span(0, api.MaxAmount), Phenol: span(3, api.MaxAmount)}
	for _, x := range []api.Malt{{}, example(), full} {
		for _, l := range [][]api.MaltStep{nil, {}} {
			if m, lost, i, e := malt.Play(x, l); m != x || lost != (api.MaltLoss{}) || i != 0 || e != api.OK {
				t.Error(x, m, lost, i, e)
			}
		}
	}
}

// P2.1: what each step does at the edges.
func TestPlaySteps(t *testing.T) {
	m := api.Malt{Dry: span(10, 13), Water: span(5, 8), Phenol: span(1, 2)}
	for _, x := range []struct {
		s    api.MaltStep
		want api.Malt
		lost api.MaltLoss
	}{
		{step(api.Steep, 0, 0), m, api.MaltLoss{}},
		{step(api.Steep, 2, 7), api.Malt{Dry: m.Dry, Water: span(7, 15), Phenol: m.Phenol}, api.MaltLoss{Taken: span(2, 7)}},
		{step(api.Sprout, 0, 0), m, api.MaltLoss{}},
		{step(api.Sprout, 1250, 3333), api.Malt{Dry: span(7, 11), Water: m.Water, Phenol: m.Phenol}, api.MaltLoss{Gas: span(2, 4)}},
		{step(api.Sprout, 0, api.Whole), api.Malt{Dry: span(0, 13), Water: m.Water, Phenol: m.Phenol}, api.MaltLoss{Gas: span(0, 13)}},
		{step(api.Sprout, api.Whole, api.Whole), api.Malt{Water: m.Water, Phenol: m.Phenol}, api.MaltLoss{Gas: span(10, 13)}},
		{step(api.Kiln, 0, 0), api.Malt{Dry: m.Dry, Phenol: m.Phenol}, api.MaltLoss{Steam: span(5, 8)}},
		{step(api.Kiln, 1250, 3333), api.Malt{Dry: m.Dry, Water: span(2, 4), Phenol: m.Phenol}, api.MaltLoss{Steam: span(1, 6)}},
		{step(api.Kiln, 5500, 5500), api.Malt{Dry: m.Dry, Water: span(6, 7), Phenol: m.Phenol}, api.MaltLoss{Steam: span(0, 2)}},
		{step(api.Kiln, 3000, api.Whole), api.Malt{Dry: m.Dry, Water: span(3, 8), Phenol: m.Phenol}, api.MaltLoss{Steam: span(0, 5)}},
		{step(api.Kiln, 8000, api.Whole), api.Malt{Dry: m.Dry, Water: one(8), Phenol: m.Phenol}, api.MaltLoss{}},
		{step(api.Peat, 0, 0), m, api.MaltLoss{}},
		{step(api.Peat, 150, 250), api.Malt{Dry: m.Dry, Water: m.Water, Phenol: span(3, 5)}, api.MaltLoss{}},
		{step(api.Peat, 1000, api.MaxPeat), api.Malt{Dry: m.Dry, Water: m.Water, Phenol: span(11, 13633)}, api.MaltLoss{}},
		{step(api.Sieve, 0, 0), m, api.MaltLoss{}},
		{step(api.Sieve, 2, 4), api.Malt{Dry: span(6, 11), Water: m.Water, Phenol: m.Phenol}, api.MaltLoss{Roots: span(2, 4)}},
		{step(api.Sieve, 2, 11), api.Malt{Dry: span(0, 11), Water: m.Water, Phenol: m.Phenol}, api.MaltLoss{Roots: span(2, 11)}},
		{step(api.Sieve, 2, 14), api.Malt{Dry: span(0, 11), Water: m.Water, Phenol: m.Phenol}, api.MaltLoss{Roots: span(2, 13)}},
		{step(api.Sieve, 13, api.MaxAmount), api.Malt{Water: m.Water, Phenol: m.Phenol}, api.MaltLoss{Roots: one(13)}},
		{step(api.Weigh, 0, api.MaxAmount), m, api.MaltLoss{}},
		{step(api.Weigh, 0, 16), api.Malt{Dry: span(10, 11), Water: span(5, 6), Phenol: m.Phenol}, api.MaltLoss{}},
		{step(api.Weigh, 0, 15), api.Malt{Dry: one(10), Water: one(5), Phenol: m.Phenol}, api.MaltLoss{}},
		{step(api.Weigh, 20, 30), api.Malt{Dry: span(12, 13), Water: span(7, 8), Phenol: m.Phenol}, api.MaltLoss{}},
		{step(api.Weigh, 21, 21), api.Malt{Dry: one(13), Water: one(8), Phenol: m.Phenol}, api.MaltLoss{}},
		{step(api.Weigh, 17, 19), m, api.MaltLoss{}},
	} {
		got, lost, i, e := malt.Play(m, []api.MaltStep{x.s})
		if got != x.want || lost != x.lost || i != 1 || e != api.OK {
			t.Error(x, got, lost, i, e)
		}
	}
}

// P2.1: only what there is behind the step, and not the smoke, has to be a whole number.
func TestPlayPeatLeaves(t *testing.T) {
	m := api.Malt{Dry: one(1), Phenol: span(0, 10)}
	l := []api.MaltStep{step(api.Peat, 30, 30)}
	want := api.Malt{Dry: one(1), Phenol: span(1, 10)}
	if got, lost, i, e := malt.Play(m, l); got != want || lost != (api.MaltLoss{}) || i != 1 || e != api.OK {
		t.Error(got, lost, i, e)
	}
}

// failing checks that steps have an error at an index, and that nothing is beside it.
func failing(t *testing.T, m api.Malt, l []api.MaltStep, index int, want api.Errno) {
	t.Helper()
	got, lost, i, e := malt.Play(m, l)
	if got != (api.Malt{}) || lost != (api.MaltLoss{}) || i != index || e != want {
		t.Error(m, l, "want", index, want, "is", got, lost, i, e)
	}
}

// P2.1: steps that cannot be have ErrNone, whichever of the spans is empty.
func TestPlayCannotBe(t *testing.T) {
	m := api.Malt{Dry: span(10, 13), Water: span(5, 8), Phenol: span(1, 2)}
	for _, x := range []struct {
		m api.Malt
		s api.MaltStep
	}{
		{api.Malt{Dry: one(1)}, step(api.Sprout, 5000, 5000)},
		{api.Malt{Dry: span(1, 2)}, step(api.Sprout, 2500, 2500)}, // only the gas
		{api.Malt{Dry: span(1, 2)}, step(api.Sprout, 9999, 9999)}, // only the dry matter
		{api.Malt{Dry: one(1111)}, step(api.Sprout, 1, 8)},
		{m, step(api.Kiln, 8001, api.Whole)},
		{api.Malt{Dry: one(1), Water: one(5)}, step(api.Kiln, 5000, 5000)},
		{api.Malt{Dry: one(10)}, step(api.Kiln, 1, api.Whole)},
		{api.Malt{Dry: one(1)}, step(api.Peat, 30, 30)},
		{m, step(api.Sieve, 14, 14)},
		{m, step(api.Sieve, 14, api.MaxAmount)},
		{api.Malt{}, step(api.Sieve, 1, 1)},
		{m, step(api.Weigh, 0, 14)},
		{m, step(api.Weigh, 22, api.MaxAmount)},
		{m, step(api.Weigh, 0, 0)},
		{api.Malt{Dry: one(1), Water: one(5), Phenol: one(api.MaxAmount)}, step(api.Kiln, 5000, 5000)},
		{api.Malt{Dry: one(1), Phenol: one(api.MaxAmount)}, step(api.Peat, 30, 999)}, // too much, too
	} {
		failing(t, x.m, []api.MaltStep{x.s}, 0, api.ErrNone)
		failing(t, x.m, []api.MaltStep{step(api.Steep, 0, 0), x.s, step(-1, 0, 0)}, 1, api.ErrNone)
	}
}

// P2.1: what becomes greater than MaxAmount has ErrLimit, what is just as great has not.
func TestPlayTooMuch(t *testing.T) {
	most := api.MaxAmount
	for _, x := range []struct {
		m    api.Malt
		l    []api.MaltStep
		want api.Malt
		lost api.MaltLoss
	}{
		{api.Malt{Water: span(5, 7)}, []api.MaltStep{step(api.Steep, 3, most-7)}, api.Malt{Water: span(8, most)}, api.MaltLoss{Taken: span(3, most-7)}},
		{api.Malt{Dry: one(1000), Phenol: span(1, most-9)}, []api.MaltStep{step(api.Peat, 2, 9)}, api.Malt{Dry: one(1000), Phenol: span(3, most)}, api.MaltLoss{}},
	} {
		if got, lost, i, e := malt.Play(x.m, x.l); got != x.want || lost != x.lost || i != 1 || e != api.OK {
			t.Error(x, got, lost, i, e)
		}
		x.l[0].B++
		failing(t, x.m, x.l, 0, api.ErrLimit)
		failing(t, x.m, []api.MaltStep{step(api.Weigh, 0, most), step(api.Sprout, 0, 0), x.l[0], step(9, 9, 9)}, 2, api.ErrLimit)
	}
	failing(t, api.Malt{Water: one(most)}, []api.MaltStep{step(api.Steep, 1, 1)}, 0, api.ErrLimit)
	failing(t, api.Malt{Water: one(most)}, []api.MaltStep{step(api.Steep, most, most)}, 0, api.ErrLimit)
	failing(t, api.Malt{Dry: one(1e12)}, []api.MaltStep{step(api.Peat, api.MaxPeat, api.MaxPeat)}, 0, api.ErrLimit)
}

// P2.1: sums of what was taken up or lost, too, are at most MaxAmount.
func TestPlaySums(t *testing.T) {
	half := api.MaxAmount / 2
	dry, kilned := step(api.Kiln, 0, 0), step(api.Steep, half, half)
	most := api.MaltLoss{Taken: one(api.MaxAmount), Steam: one(api.MaxAmount)}
	l := []api.MaltStep{kilned, dry, kilned, dry}
	if got, lost, i, e := malt.Play(api.Malt{}, l); got != (api.Malt{}) || lost != most || i != 4 || e != api.OK {
		t.Error(got, lost, i, e)
	}
	// Water that was taken up.
	failing(t, api.Malt{}, append(slices.Clone(l), step(api.Steep, 0, 0), step(api.Steep, 0, 1)), 5, api.ErrLimit)
	failing(t, api.Malt{}, append(slices.Clone(l), step(api.Steep, 1, 1), step(-1, 0, 0)), 4, api.ErrLimit)
	// Steam.
	failing(t, api.Malt{Water: one(1)}, l, 3, api.ErrLimit)
	// Gas, and roots: whether anything was lost is not known.
	all := api.Malt{Dry: one(api.MaxAmount)}
	for _, s := range []api.MaltStep{step(api.Sprout, 0, 5000), step(api.Sieve, 0, half)} {
		got, lost, i, e := malt.Play(all, []api.MaltStep{s, s})
		if e != api.OK || i != 2 || got.Dry.Hi != api.MaxAmount || max(lost.Gas.Hi, lost.Roots.Hi) != api.MaxAmount {
			t.Error(s, got, lost, i, e)
		}
		failing(t, all, []api.MaltStep{s, s, s}, 2, api.ErrLimit)
		failing(t, all, []api.MaltStep{s, s, step(s.Kind, 0, 1)}, 2, api.ErrLimit)
	}
}

// P2.1: sums are of both ends of all spans.
func TestPlayAddsUp(t *testing.T) {
	m := api.Malt{Dry: span(1000, 1010), Water: span(500, 520)}
	l := []api.MaltStep{
		step(api.Steep, 10, 20), step(api.Sieve, 5, 7), step(api.Kiln, 4000, 4500), step(api.Sprout, 100, 200),
		step(api.Steep, 100, 300), step(api.Sieve, 50, 70), step(api.Kiln, 1000, 1500), step(api.Sprout, 300, 400),
	}
	want := api.Malt{Dry: span(868, 915), Water: span(91, 141)}
	sums := api.MaltLoss{Taken: span(110, 320), Gas: span(38, 57), Roots: span(55, 77), Steam: span(415, 803)}
	got, lost, i, e := malt.Play(m, l)
	if got != want || lost != sums || i != 8 || e != api.OK {
		t.Error(got, lost, i, e)
	}
}

// P2.1: steps that are not valid have ErrArg, those at the limits have not.
func TestPlayInvalidSteps(t *testing.T) {
	kinds := []int{-1, 6, 7, minInt, maxInt, 1 << 32}
	for _, kind := range kinds {
		failing(t, example(), []api.MaltStep{step(kind, 0, 0)}, 0, api.ErrArg)
	}
	for kind := api.Steep; kind <= api.Weigh; kind++ {
		most := greatest(kind)
		for _, s := range badSpans(most) {
			failing(t, example(), []api.MaltStep{step(kind, s.Lo, s.Hi)}, 0, api.ErrArg)
			// What is not valid comes ahead of what cannot be, and is too much.
			failing(t, api.Malt{Water: one(api.MaxAmount)}, []api.MaltStep{step(kind, s.Lo, s.Hi)}, 0, api.ErrArg)
		}
		if _, _, i, e := malt.Play(api.Malt{}, []api.MaltStep{step(kind, 0, most)}); i != 1 || e != api.OK {
			t.Error(kind, i, e)
		}
	}
}

// P2.1: malt that is not valid, then too many steps, then the first step with an error.
func TestPlayOrder(t *testing.T) {
	none, bad, limit := step(api.Weigh, 0, 0), step(-1, 0, 0), step(api.Steep, api.MaxAmount, api.MaxAmount)
	long := slices.Repeat([]api.MaltStep{bad}, api.MaxMaltSteps+1)
	for _, m := range badMalt() {
		failing(t, m, nil, 0, api.ErrArg)
		failing(t, m, long, 0, api.ErrArg)
		failing(t, m, []api.MaltStep{step(api.Steep, 0, 0), none}, 0, api.ErrArg)
	}
	failing(t, example(), long, 0, api.ErrLong)
	failing(t, example(), slices.Repeat([]api.MaltStep{step(api.Steep, 0, 0)}, api.MaxMaltSteps+1), 0, api.ErrLong)
	for _, x := range []struct {
		s api.MaltStep
		e api.Errno
	}{{none, api.ErrNone}, {bad, api.ErrArg}, {limit, api.ErrLimit}} {
		for _, other := range []api.MaltStep{none, bad, limit} {
			failing(t, example(), []api.MaltStep{step(api.Sieve, 1, 1), x.s, other}, 1, x.e)
		}
	}
}

// P2.1: 256 steps are not too many.
func TestPlayMany(t *testing.T) {
	l := slices.Repeat([]api.MaltStep{step(api.Steep, 1, 2)}, api.MaxMaltSteps)
	want := example()
	want.Water = span(150+256, 160+512)
	m, lost, i, e := malt.Play(example(), l)
	if m != want || lost != (api.MaltLoss{Taken: span(256, 512)}) || i != 256 || e != api.OK {
		t.Error(m, lost, i, e)
	}
	l[255] = step(api.Sieve, api.MaxAmount, api.MaxAmount)
	failing(t, example(), l, 255, api.ErrNone)
}

// P2.1: steps of all kinds, with small amounts and with the greatest ones.
func TestPlayAny(t *testing.T) {
	r := rand.New(rand.NewSource(1))
	count := map[api.Errno]int{}
	for n := range 60000 {
		most := []int{3, 30, 30000, api.MaxAmount}[n%4]
		m := anyMalt(r, most)
		var l []api.MaltStep
		for range 1 + r.Intn(5) {
			l = append(l, anyStep(r, r.Intn(6), most))
		}
		want, sums, index, wantE := rightPlay(m, l)
		got, lost, i, e := malt.Play(m, l)
		if got != want || lost != sums || i != index || e != wantE {
			t.Fatal(m, l, "want", want, sums, index, wantE, "is", got, lost, i, e)
		}
		count[e]++
	}
	if count[api.OK] < 5000 || count[api.ErrNone] < 5000 || count[api.ErrLimit] < 1000 {
		t.Error("the steps do not show what they are to show", count)
	}
}
