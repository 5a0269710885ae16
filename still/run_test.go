package still_test

import (
	"math/rand"
	"slices"
	"testing"

	"wormtub/api"
	"wormtub/still"
)

// checkDraw checks what Draw returns.
func checkDraw(t *testing.T, c api.Curve, p api.Pot, amount int, want api.Drawn, wantPot api.Pot, wantE api.Errno) {
	t.Helper()
	if got, pot, e := still.Draw(c, p, amount); got != want || pot != wantPot || e != wantE {
		t.Fatal(c, p, amount, got, pot, e, "want", want, wantPot, wantE)
	}
}

// drawn returns what was drawn; potOf what is in a pot.
func drawn(amount, lo, hi int) api.Drawn { return api.Drawn{Amount: amount, Alcohol: span(lo, hi)} }

func potOf(volume, lo, hi int) api.Pot { return api.Pot{Volume: volume, Alcohol: span(lo, hi)} }

// P4.2: the examples, all of it, nothing but water, and nothing but alcohol.
func TestDraw(t *testing.T) {
	c := exampleCurve()
	checkDraw(t, c, examplePot(), 1000, drawn(1000, 266, 520), potOf(9000, 480, 734), api.OK)
	checkDraw(t, c, potOf(9000, 480, 734), 1000, drawn(1000, 34, 425), potOf(8000, 55, 653), api.OK)
	checkDraw(t, c, examplePot(), 10000, drawn(10000, 1000, 1000), potOf(0, 0, 0), api.OK)
	checkDraw(t, c, examplePot(), 9999, drawn(9999, 999, 1000), potOf(1, 0, 1), api.OK)
	checkDraw(t, c, potOf(10000, 0, 0), 1000, drawn(1000, 0, 0), potOf(9000, 0, 0), api.OK)
	checkDraw(t, c, potOf(10000, 10000, 10000), 1000, drawn(1000, 1000, 1000), potOf(9000, 9000, 9000), api.OK)
	checkDraw(t, c, potOf(1, 0, 1), 1, drawn(1, 0, 1), potOf(0, 0, 0), api.OK)
	checkDraw(t, c, potOf(10000, 0, 10000), 1, drawn(1, 0, 1), potOf(9999, 0, 9999), api.OK)
	// Water of which some is vapour that may be strong: no more is drawn than there is.
	wild := api.Curve{Liquid: []int{0, 10000}, Vapour: []api.Span{span(0, 10000), one(10000)}}
	checkDraw(t, wild, potOf(10000, 3, 5), 1000, drawn(1000, 0, 5), potOf(9000, 0, 5), api.OK)
	checkDraw(t, wild, potOf(10000, 0, 0), 1000, drawn(1000, 0, 0), potOf(9000, 0, 0), api.OK)
	// What does not fit into the rest was drawn, however weak the vapour may have been.
	checkDraw(t, plainCurve(), potOf(20001, 20000, 20000), 20000, drawn(20000, 19999, 20000), potOf(1, 0, 1), api.OK)
	checkDraw(t, c, potOf(10, 9, 10), 9, drawn(9, 8, 9), potOf(1, 0, 1), api.OK)
	checkDraw(t, plainCurve(), potOf(api.MaxPot, api.MaxPot, api.MaxPot), 1<<29, drawn(1<<29, 1<<29, 1<<29), potOf(1<<29, 1<<29, 1<<29), api.OK)
	checkDraw(t, plainCurve(), potOf(api.MaxPot, 0, api.MaxPot), api.MaxPot, drawn(api.MaxPot, 0, api.MaxPot), potOf(0, 0, 0), api.OK)
	checkDraw(t, c, potOf(api.MaxPot, 1<<29, 1<<29), 1, drawn(1, 0, 1), potOf(api.MaxPot-1, 1<<29-1, 1<<29), api.OK)
}

// P4.2: amounts beyond the range, and beyond the volume, in this order; and ahead of
// both what is not valid.
func TestDrawErrors(t *testing.T) {
	c, p := exampleCurve(), examplePot()
	none := func(c api.Curve, p api.Pot, amount int, e api.Errno) {
		t.Helper()
		checkDraw(t, c, p, amount, api.Drawn{}, api.Pot{}, e)
	}
	for _, d := range badNumbers(1, api.MaxPot) {
		none(c, p, d, api.ErrRange)
		none(c, potOf(0, 0, 0), d, api.ErrRange)
	}
	for _, d := range []int{10001, api.MaxPot} {
		none(c, p, d, api.ErrShort)
	}
	none(c, api.Pot{}, 1, api.ErrShort)
	none(c, potOf(api.MaxPot-1, 0, 0), api.MaxPot, api.ErrShort)
	for _, d := range []int{1, 0, 10001, maxInt} {
		for _, bad := range badCurves() {
			none(bad, p, d, api.ErrArg)
		}
		for _, bad := range badPots() {
			none(c, bad, d, api.ErrArg)
		}
	}
}

// checkRun checks what Run returns.
func checkRun(t *testing.T, c api.Curve, p api.Pot, amounts []int, want []api.Drawn, wantPot api.Pot, wantE api.Errno) {
	t.Helper()
	if got, pot, e := still.Run(c, p, amounts); !slices.Equal(got, want) || pot != wantPot || e != wantE {
		t.Fatal(c, p, amounts, got, pot, e, "want", want, wantPot, wantE)
	}
}

// P4.3: the example, no amounts, and an empty pot at the end.
func TestRun(t *testing.T) {
	c, p := exampleCurve(), examplePot()
	two := []api.Drawn{drawn(1000, 266, 520), drawn(1000, 34, 425)}
	checkRun(t, c, p, []int{1000, 1000}, two, potOf(8000, 55, 653), api.OK)
	checkRun(t, c, p, []int{1000}, two[:1], potOf(9000, 480, 734), api.OK)
	checkRun(t, c, p, nil, nil, p, api.OK)
	checkRun(t, c, p, []int{}, nil, p, api.OK)
	checkRun(t, c, api.Pot{}, nil, nil, api.Pot{}, api.OK)
	checkRun(t, c, p, []int{1000, 1000, 8000}, append(two, drawn(8000, 55, 653)), api.Pot{}, api.OK)
}

// P4.3: the first error of a draw counts, and leaves nothing.
func TestRunErrors(t *testing.T) {
	c, p := exampleCurve(), examplePot()
	for _, x := range []struct {
		amounts []int
		e       api.Errno
	}{
		{[]int{0}, api.ErrRange}, {[]int{1000, -1}, api.ErrRange}, {[]int{1000, 9001}, api.ErrShort},
		{[]int{10000, 1}, api.ErrShort}, {[]int{10000, 0}, api.ErrRange}, {[]int{10001, 0}, api.ErrShort},
		{[]int{0, 10001}, api.ErrRange}, {[]int{1, api.MaxPot + 1, api.MaxPot}, api.ErrRange},
		{[]int{1, api.MaxPot, api.MaxPot + 1}, api.ErrShort}, {[]int{maxInt}, api.ErrRange}, {[]int{minInt}, api.ErrRange},
	} {
		checkRun(t, c, p, x.amounts, nil, api.Pot{}, x.e)
	}
}

// ones returns so many amounts of 1.
func ones(count int) []int { return slices.Repeat([]int{1}, count) }

// P4.3: more amounts than there may be, ahead of what is not valid, ahead of the draws.
func TestRunMany(t *testing.T) {
	c, p := exampleCurve(), examplePot()
	want, end, _ := rightRun(c, p, ones(api.MaxDraws))
	checkRun(t, c, p, ones(api.MaxDraws), want, end, api.OK)
	for _, many := range [][]int{ones(api.MaxDraws + 1), make([]int, 1000)} {
		checkRun(t, c, p, many, nil, api.Pot{}, api.ErrLong)
		checkRun(t, api.Curve{}, potOf(1, 2, 0), many, nil, api.Pot{}, api.ErrLong)
	}
	for _, amounts := range [][]int{nil, {1000}, {0}, {10001}} {
		for _, bad := range badCurves() {
			checkRun(t, bad, p, amounts, nil, api.Pot{}, api.ErrArg)
		}
		for _, bad := range badPots() {
			checkRun(t, c, bad, amounts, nil, api.Pot{}, api.ErrArg)
		}
	}
}

// P4.2 and P4.3: pots and curves of all kinds; a run is its draws, one after the other.
func TestRunAny(t *testing.T) {
	r := rand.New(rand.NewSource(2))
	done, failed := 0, 0
	for n := range 6000 {
		c, p := anyCurve(r, []int{0, 50, 5000}[n%3]), anyPot(r, []int{5, 300, 100000, api.MaxPot}[n%4])
		amounts := anyAmounts(r, r.Intn(8), p.Volume)
		want, end, e := rightRun(c, p, amounts)
		checkRun(t, c, p, amounts, want, end, e)
		now := p
		for i, d := range amounts[:len(want)] {
			one, then, _ := rightDraw(c, now, d)
			checkDraw(t, c, now, d, want[i], then, api.OK)
			if one != want[i] {
				t.Fatal(c, p, amounts, i)
			}
			now = then
			done++
		}
		if e != api.OK {
			failed++
		}
	}
	if done < 5000 || failed < 300 {
		t.Error("the runs do not show what they are to show", done, failed)
	}
}
