package wash_test

import (
	"math/rand"
	"testing"

	"wormtub/api"
	"wormtub/wash"
)

// P3.1: the examples, and what is rounded.
func TestMash(t *testing.T) {
	for _, x := range []struct {
		grist, water                       int
		extract, hold, volume, sugar, lost api.Span
	}{
		{1000, 4000, span(700, 750), span(1000, 1200), span(2800, 3000), span(490, 563), span(175, 225)},
		{1000, 4000, one(700), one(0), one(4000), one(700), one(0)},
		{1, 1, one(0), span(0, 0), one(1), one(0), one(0)},
		{1, 10, one(1000), one(1), span(9, 10), span(0, 1), span(0, 1)},
		{3, 10, one(1000), one(1000), one(7), span(2, 3), span(0, 1)},
		{3, 10, one(1000), span(500, 1500), span(5, 9), span(1, 3), span(0, 2)},
		{3, 10, one(1000), one(3000), one(1), span(0, 1), span(2, 3)},
		{1, 10001, span(0, 1000), span(0, 10000), span(9991, 10001), span(0, 1), span(0, 1)},
		{api.MaxMash, api.MaxMash, one(1000), one(0), one(api.MaxMash), one(api.MaxMash), one(0)},
		{api.MaxMash, api.MaxMash, one(1000), one(500), one(api.MaxMash / 2), one(api.MaxMash / 2), one(api.MaxMash / 2)},
		{1, api.MaxMash, one(1000), one(10000), one(api.MaxMash - 10), span(0, 1), span(0, 1)},
	} {
		m := api.Mash{Grist: x.grist, Water: x.water, Extract: x.extract, Hold: x.hold}
		if wort, lost, e := wash.Mash(m); wort != (api.Wort{Sugar: x.sugar, Volume: x.volume}) || lost != x.lost || e != api.OK {
			t.Error(m, wort, lost, e)
		}
	}
}

// P3.1: a mash that may leave no wort.
func TestMashShort(t *testing.T) {
	for _, x := range []struct {
		grist, water int
		hold         api.Span
		want         api.Errno
	}{
		{1000, 1000, one(998), api.OK}, {1000, 1000, one(999), api.OK}, {1000, 1000, one(1000), api.ErrShort},
		{1000, 1000, span(0, 999), api.OK}, {1000, 1000, span(0, 1000), api.ErrShort},
		{1, 1, one(0), api.OK}, {1, 1, one(1), api.ErrShort}, {1, 1, span(0, 1), api.ErrShort},
		{1, 2, one(1000), api.OK}, {1, 2, one(1001), api.ErrShort},
		{api.MaxMash, 1, one(10000), api.ErrShort}, {api.MaxMash, api.MaxMash, one(1000), api.ErrShort},
		{api.MaxMash, api.MaxMash, one(999), api.OK},
	} {
		m := api.Mash{Grist: x.grist, Water: x.water, Extract: one(5), Hold: x.hold}
		wort, lost, e := wash.Mash(m)
		if e != x.want || e != api.OK && (wort != api.Wort{} || lost != api.Span{}) {
			t.Error(m, wort, lost, e)
		}
	}
}

// P3.1: a mash that is not valid has ErrArg, ahead of ErrShort.
func TestMashInvalid(t *testing.T) {
	var l []api.Mash
	with := func(change func(m *api.Mash)) {
		for _, hold := range []api.Span{one(0), one(10000)} { // with the second one it is short, too
			m := exampleMash()
			m.Hold = hold
			change(&m)
			l = append(l, m)
		}
	}
	for _, n := range []int{0, -1, minInt, api.MaxMash + 1, maxInt} {
		with(func(m *api.Mash) { m.Grist = n })
		with(func(m *api.Mash) { m.Water = n })
	}
	for _, s := range badSpans(0, 1000) {
		with(func(m *api.Mash) { m.Extract = s })
	}
	for _, s := range badSpans(0, 10000) {
		with(func(m *api.Mash) { m.Hold = s })
	}
	for _, m := range append(l, api.Mash{}) {
		if wort, lost, e := wash.Mash(m); wort != (api.Wort{}) || lost != (api.Span{}) || e != api.ErrArg {
			t.Error(m, wort, lost, e)
		}
	}
}

// anyMash returns a valid mash, not always with wort.
func anyMash(r *rand.Rand, most int) api.Mash {
	return api.Mash{
		Grist: 1 + r.Intn(most), Water: 1 + r.Intn(most),
		Extract: anySpan(r, 0, 1000), Hold: anySpan(r, 0, []int{1, 1000, 10000}[r.Intn(3)]),
	}
}

// P3.1: mashes of all sizes, as the document writes the ends.
func TestMashAny(t *testing.T) {
	r := rand.New(rand.NewSource(1))
	for n := range 20000 {
		m := anyMash(r, []int{3, 50, 5000, api.MaxMash}[n%4])
		held := share(1000, one(m.Grist), m.Hold)
		volume := span(m.Water-held.Hi, m.Water-held.Lo)
		wort, lost, e := wash.Mash(m)
		if volume.Lo < 1 {
			if wort != (api.Wort{}) || lost != (api.Span{}) || e != api.ErrShort {
				t.Fatal(m, wort, lost, e)
			}
			continue
		}
		sugar := share(1000*m.Water, one(m.Grist), m.Extract, volume)
		want := share(1000*m.Water, one(m.Grist), m.Extract, span(m.Water-volume.Hi, m.Water-volume.Lo))
		if wort != (api.Wort{Sugar: sugar, Volume: volume}) || lost != want || e != api.OK {
			t.Fatal(m, wort, lost, e, "want", sugar, volume, want)
		}
	}
}

// P3.10: whatever the extract is, and what is held back, the sugar of the grist is in
// the wort or lost.
func TestMashTruth(t *testing.T) {
	r := rand.New(rand.NewSource(2))
	done := 0
	for n := range 20000 {
		m := anyMash(r, []int{3, 50, 5000, api.MaxMash}[n%4])
		wort, lost, e := wash.Mash(m)
		if e != api.OK {
			continue
		}
		sugar := over(times(rat(m.Grist), anyIn(r, m.Extract)), rat(1000))
		volume := less(rat(m.Water), over(times(rat(m.Grist), anyIn(r, m.Hold)), rat(1000)))
		gained := over(times(sugar, volume), rat(m.Water))
		if !holds(wort.Volume, volume) || !holds(wort.Sugar, gained) || !holds(lost, less(sugar, gained)) {
			t.Fatal(m, wort, lost, sugar, volume, gained)
		}
		if !holds(add(wort.Sugar, lost), sugar) {
			t.Fatal(m, wort, lost, sugar)
		}
		done++
	}
	checkDone(t, done)
}

// P3 and P3.10: what is known better of a mash leaves spans that are not wider.
func TestMashNarrower(t *testing.T) {
	r := rand.New(rand.NewSource(3))
	done := 0
	for n := range 20000 {
		m := anyMash(r, []int{3, 50, 5000, api.MaxMash}[n%4])
		wort, lost, e := wash.Mash(m)
		if e != api.OK {
			continue
		}
		m.Extract, m.Hold = narrower(r, m.Extract), narrower(r, m.Hold)
		better, lessLost, e := wash.Mash(m)
		if e != api.OK || !inside(better.Sugar, wort.Sugar) || !inside(better.Volume, wort.Volume) || !inside(lessLost, lost) {
			t.Fatal(m, wort, lost, better, lessLost, e)
		}
		done++
	}
	checkDone(t, done)
}
