package still_test

import (
	"math/rand"
	"testing"

	"wormtub/api"
	"wormtub/still"
)

// P4.1: the curve of the example, and the least and the greatest number of liquids.
func TestCheck(t *testing.T) {
	for _, c := range []api.Curve{
		exampleCurve(), plainCurve(), fineCurve(api.MaxCurve), fineCurve(api.MaxCurve - 1), fineCurve(3),
		{Liquid: []int{0, 10000}, Vapour: []api.Span{span(0, 10000), one(10000)}},
		{Liquid: []int{0, 1, 10000}, Vapour: []api.Span{one(0), one(10000), one(10000)}},
		{Liquid: []int{0, 1000, 2000, 10000}, Vapour: []api.Span{span(0, 10000), span(2000, 10000), span(2000, 10000), one(10000)}},
		{Liquid: []int{0, 9999, 10000}, Vapour: []api.Span{one(0), span(9999, 10000), one(10000)}},
	} {
		if e := still.Check(c); e != api.OK {
			t.Error(c, e)
		}
	}
}

// P4.1: curves that are not valid, each for a reason of its own.
func TestCheckErrors(t *testing.T) {
	for _, c := range badCurves() {
		if e := still.Check(c); e != api.ErrArg {
			t.Error(c, e)
		}
	}
}

// checkVapour checks what Vapour returns.
func checkVapour(t *testing.T, c api.Curve, strength, want api.Span, wantE api.Errno) {
	t.Helper()
	if got, e := still.Vapour(c, strength); got != want || e != wantE {
		t.Error(c, strength, got, e, "want", want, wantE)
	}
}

// P4.1: the examples, and the ends of the curve.
func TestVapour(t *testing.T) {
	c := exampleCurve()
	checkVapour(t, c, one(1000), span(5000, 5200), api.OK)
	checkVapour(t, c, one(3000), span(6500, 6650), api.OK)
	checkVapour(t, c, span(500, 1000), span(2500, 5200), api.OK)
	checkVapour(t, c, one(0), one(0), api.OK)
	checkVapour(t, c, one(10000), one(10000), api.OK)
	checkVapour(t, c, one(5000), span(8000, 8100), api.OK)
	checkVapour(t, c, span(0, 10000), span(0, 10000), api.OK)
	checkVapour(t, c, span(999, 1001), span(4995, 5201), api.OK)  // 5200.725
	checkVapour(t, c, span(1001, 5001), span(5000, 8101), api.OK) // 5000.75, 8100.38
	checkVapour(t, c, one(9999), span(9999, 10000), api.OK)       // 9999.6, 9999.62
	checkVapour(t, plainCurve(), span(1234, 5678), span(1234, 5678), api.OK)
}

// P4.1: a curve, or strengths, that are not valid.
func TestVapourErrors(t *testing.T) {
	for _, c := range badCurves() {
		checkVapour(t, c, one(1000), api.Span{}, api.ErrArg)
	}
	for _, s := range badSpans(0, 10000) {
		checkVapour(t, exampleCurve(), s, api.Span{}, api.ErrArg)
		checkVapour(t, api.Curve{}, s, api.Span{}, api.ErrArg)
	}
}

// P4.1: curves of all kinds, whose lines are rounded outward; vapour is never weaker
// than its liquid.
func TestVapourAny(t *testing.T) {
	r := rand.New(rand.NewSource(1))
	for n := range 5000 {
		c := anyCurve(r, []int{0, 10, 3000}[n%3])
		if e := still.Check(c); e != api.OK {
			t.Fatal(c, e)
		}
		s := anySpan(r, 0, 10000)
		want := rightVapour(c, s)
		checkVapour(t, c, s, want, api.OK)
		if want.Lo < s.Lo || want.Hi < s.Hi {
			t.Fatal(c, s, want)
		}
		for i, x := range c.Liquid {
			checkVapour(t, c, one(x), c.Vapour[i], api.OK)
		}
	}
}
