package malt_test

import (
	"math/rand"
	"testing"

	"wormtub/api"
	"wormtub/malt"
)

// P2.2: the examples, and what is rounded.
func TestMoisture(t *testing.T) {
	for _, x := range []struct{ dry, water, want api.Span }{
		{span(883, 898), span(42, 47), span(446, 506)},
		{one(3), one(1), one(2500)},
		{one(2), one(1), span(3333, 3334)},
		{one(5), one(0), one(0)},
		{one(0), one(5), one(10000)},
		{span(0, 5), one(5), span(5000, 10000)},
		{span(1, 2), span(0, 3), span(0, 7500)},
		{span(0, 2), span(1, 3), span(3333, 10000)},
		{span(1, 2), one(0), one(0)},
		{one(api.MaxAmount), one(api.MaxAmount), one(5000)},
		{one(api.MaxAmount), one(1), span(0, 1)},
		{one(1), one(api.MaxAmount), span(9999, 10000)},
		{span(1, api.MaxAmount), span(0, api.MaxAmount), span(0, 10000)},
	} {
		for _, phenol := range []api.Span{one(0), span(7, api.MaxAmount)} {
			m := api.Malt{Dry: x.dry, Water: x.water, Phenol: phenol}
			if s, e := malt.Moisture(m); s != x.want || e != api.OK {
				t.Error(m, s, e)
			}
		}
	}
}

// P2.2: without any dry matter and water that is sure there is no moisture.
func TestMoistureNone(t *testing.T) {
	for _, x := range []struct {
		dry, water api.Span
		e          api.Errno
	}{
		{one(0), one(0), api.ErrNone}, {span(0, 5), one(0), api.ErrNone}, {one(0), span(0, 5), api.ErrNone},
		{span(0, 5), span(0, 5), api.ErrNone}, {span(0, 1), one(1), api.OK}, {one(1), span(0, 1), api.OK},
	} {
		if s, e := malt.Moisture(api.Malt{Dry: x.dry, Water: x.water}); e != x.e || e != api.OK && s != (api.Span{}) {
			t.Error(x, s, e)
		}
	}
}

// P2.2: the examples, and what is rounded.
func TestPhenols(t *testing.T) {
	for _, x := range []struct {
		dry, phenol, want api.Span
		e                 api.Errno
	}{
		{span(883, 898), span(28, 38), span(31, 44), api.OK},
		{one(1000), one(35), one(35), api.OK},
		{one(3000), one(100), span(33, 34), api.OK},
		{span(1, 2), one(0), one(0), api.OK},
		{span(1, 2), span(1, 3), span(500, 3000), api.OK},
		{span(1, api.MaxAmount), span(5, api.MaxAmount), span(0, 1000*api.MaxAmount), api.OK},
		{one(api.MaxAmount), one(api.MaxAmount), one(1000), api.OK},
		{one(0), one(5), api.Span{}, api.ErrNone},
		{span(0, 5), one(5), api.Span{}, api.ErrNone},
		{one(0), one(0), api.Span{}, api.ErrNone},
	} {
		for _, water := range []api.Span{one(0), span(7, api.MaxAmount)} {
			m := api.Malt{Dry: x.dry, Water: water, Phenol: x.phenol}
			if s, e := malt.Phenols(m); s != x.want || e != x.e {
				t.Error(m, s, e)
			}
		}
	}
}

// P2.2: malt that is not valid has ErrArg, ahead of ErrNone.
func TestPartsInvalid(t *testing.T) {
	bad := badMalt()
	for _, m := range badMalt() {
		m.Dry.Lo = 0
		if m.Dry.Hi < 0 || m.Dry.Hi > api.MaxAmount {
			bad = append(bad, m)
		}
	}
	bad = append(bad, api.Malt{Phenol: one(-1)}, api.Malt{Water: span(0, -1)}, api.Malt{Dry: span(0, -1)})
	for _, m := range bad {
		if s, e := malt.Moisture(m); s != (api.Span{}) || e != api.ErrArg {
			t.Error("Moisture", m, s, e)
		}
		if s, e := malt.Phenols(m); s != (api.Span{}) || e != api.ErrArg {
			t.Error("Phenols", m, s, e)
		}
	}
}

// P2.2: malt of all kinds.
func TestPartsAny(t *testing.T) {
	r := rand.New(rand.NewSource(2))
	for n := range 20000 {
		m := anyMalt(r, []int{2, 50, 5000, api.MaxAmount}[n%4])
		want, wantE := api.Span{}, api.ErrNone
		if m.Dry.Lo > 0 || m.Water.Lo > 0 {
			want.Lo = floor(part(api.Whole, m.Water.Lo, m.Water.Lo+m.Dry.Hi))
			want.Hi = ceil(part(api.Whole, m.Water.Hi, m.Water.Hi+m.Dry.Lo))
			wantE = api.OK
		}
		if s, e := malt.Moisture(m); s != want || e != wantE {
			t.Fatal("Moisture", m, s, e, want)
		}
		want, wantE = api.Span{}, api.ErrNone
		if m.Dry.Lo > 0 {
			want = span(floor(part(1000, m.Phenol.Lo, m.Dry.Hi)), ceil(part(1000, m.Phenol.Hi, m.Dry.Lo)))
			wantE = api.OK
		}
		if s, e := malt.Phenols(m); s != want || e != wantE {
			t.Fatal("Phenols", m, s, e, want)
		}
	}
}
