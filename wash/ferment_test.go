package wash_test

import (
	"math/rand"
	"slices"
	"testing"

	"wormtub/api"
	"wormtub/wash"
)

// checkVats checks what Ferment returns.
func checkVats(t *testing.T, y api.Yeast, v api.Vat, cool []api.Span, want []api.Vat, wantE api.Errno) {
	t.Helper()
	if got, e := wash.Ferment(y, v, cool); !slices.Equal(got, want) || e != wantE {
		t.Fatal(y, v, cool, got, e, "want", want, wantE)
	}
}

// checkFirst checks what First returns.
func checkFirst(t *testing.T, y api.Yeast, v api.Vat, cool []api.Span, limits api.Span, want int, wantE api.Errno) {
	t.Helper()
	if got, e := wash.First(y, v, cool, limits); got != want || e != wantE {
		t.Fatal(y, v, cool, limits, got, e, "want", want, wantE)
	}
}

// P3.3: hours one after the other, each with its cooling.
func TestFerment(t *testing.T) {
	y, v := exampleYeast(), exampleVat()
	checkVats(t, y, v, nil, nil, api.OK)
	checkVats(t, y, v, []api.Span{}, nil, api.OK)
	cool := []api.Span{one(0), span(1000, 1200), one(0), span(0, 500)}
	var want []api.Vat
	for _, c := range cool {
		behind, e := wash.Hour(y, v, c)
		if e != api.OK {
			t.Fatal(e)
		}
		v, want = behind, append(want, behind)
	}
	for n := range len(cool) + 1 {
		checkVats(t, y, exampleVat(), cool[:n], want[:n], api.OK)
	}
	if want[0].Temp != span(25750, 26500) || want[1].Sugar != span(810000, 902500) {
		t.Error(want)
	}
}

// P3.3: too many coolings have ErrLong ahead of ErrArg; ErrArg comes ahead of ErrLimit,
// whichever hours have them.
func TestFermentErrors(t *testing.T) {
	y, v := exampleYeast(), exampleVat()
	hours := make([]api.Span, api.MaxFerment)
	slow := plainYeast(one(1))
	if got, e := wash.Ferment(slow, v, hours); len(got) != api.MaxFerment || e != api.OK {
		t.Error(len(got), e)
	}
	long := append(slices.Clone(hours), one(-1))
	checkVats(t, slow, v, long, nil, api.ErrLong)
	checkVats(t, api.Yeast{}, v, long, nil, api.ErrLong)
	checkVats(t, y, api.Vat{}, long, nil, api.ErrLong)
	for _, bad := range badYeasts() {
		checkVats(t, bad, v, nil, nil, api.ErrArg)
		checkVats(t, bad, v, hours, nil, api.ErrArg)
	}
	for _, bad := range badVats() {
		checkVats(t, y, bad, nil, nil, api.ErrArg)
		checkVats(t, y, bad, hours, nil, api.ErrArg)
	}
	for _, bad := range badCoolings() {
		checkVats(t, y, v, []api.Span{bad}, nil, api.ErrArg)
		checkVats(t, y, v, []api.Span{one(api.MaxDegree), one(0), bad}, nil, api.ErrArg)
	}
	cold := one(-api.MinDegree)
	checkVats(t, y, v, []api.Span{one(0), cold, cold}, nil, api.ErrLimit)
	checkVats(t, y, v, []api.Span{cold, cold, one(0)}, nil, api.ErrLimit)
}

// P3.4: the example, and temperatures at the limits.
func TestFirst(t *testing.T) {
	y, v, hours := exampleYeast(), exampleVat(), make([]api.Span, 6)
	checkFirst(t, y, v, hours, span(20000, 29000), 2, api.OK)
	vats, _ := wash.Ferment(y, v, hours)
	if vats[2].Temp != span(27032, 29279) {
		t.Error(vats)
	}
	checkFirst(t, y, v, hours[:2], span(20000, 29000), 0, api.ErrNone)
	checkFirst(t, y, v, hours[:3], span(20000, 29279), 0, api.ErrNone)
	checkFirst(t, y, v, hours[:3], span(20000, 29278), 2, api.OK)
	checkFirst(t, y, v, hours, span(25750, 40000), 0, api.ErrNone)
	checkFirst(t, y, v, hours, span(25751, 40000), 0, api.OK)
	checkFirst(t, y, v, hours, span(minInt, maxInt), 0, api.ErrNone)
	checkFirst(t, y, v, nil, one(0), 0, api.ErrNone)
	checkFirst(t, y, v, hours, one(0), 0, api.OK)
	// The temperature of the beginning is not behind any hour.
	checkFirst(t, y, v, hours[:1], span(25001, 30000), 0, api.ErrNone)
}

// P3.4: limits come first of all, then the errors of Ferment, also those of hours that
// come after one that is beyond the limits.
func TestFirstErrors(t *testing.T) {
	y, v := exampleYeast(), exampleVat()
	long, wide := make([]api.Span, api.MaxFerment+1), span(0, 100000)
	for _, bad := range []api.Span{span(1, 0), span(maxInt, minInt), span(20001, 20000)} {
		checkFirst(t, y, v, nil, bad, 0, api.ErrArg)
		checkFirst(t, y, v, long, bad, 0, api.ErrArg)
	}
	checkFirst(t, api.Yeast{}, v, long, wide, 0, api.ErrLong)
	for _, bad := range badYeasts() {
		checkFirst(t, bad, v, nil, wide, 0, api.ErrArg)
	}
	for _, bad := range badVats() {
		checkFirst(t, y, bad, nil, wide, 0, api.ErrArg)
	}
	for _, bad := range badCoolings() {
		checkFirst(t, y, v, []api.Span{one(0), bad}, one(0), 0, api.ErrArg)
		checkFirst(t, y, v, []api.Span{one(api.MaxDegree), bad}, wide, 0, api.ErrArg)
	}
	cold := one(-api.MinDegree)
	checkFirst(t, y, v, []api.Span{one(0), one(0), cold, cold}, one(0), 0, api.ErrLimit)
	checkFirst(t, y, v, []api.Span{one(0), one(0)}, one(0), 0, api.OK)
}

// P3.3 and P3.4: fermentations of all kinds.
func TestFermentAny(t *testing.T) {
	r := rand.New(rand.NewSource(5))
	found := [api.ErrNil]int{}
	for n := range 5000 {
		y, v := anyYeast(r), anyVat(r, []int{3, 50, 1000000, api.MaxSugar}[n%4])
		if n%3 == 0 {
			nearLimit(r, &v)
		}
		cool := anyCooling(r, r.Intn(8))
		want, wantE := rightFerment(y, v, cool)
		checkVats(t, y, v, cool, want, wantE)
		limits := anySpan(r, 5000, 40000)
		limits.Hi += r.Intn(30000)
		first := slices.IndexFunc(want, func(v api.Vat) bool { return v.Temp.Lo < limits.Lo || v.Temp.Hi > limits.Hi })
		if wantE == api.OK && first < 0 {
			first, wantE = 0, api.ErrNone
		}
		checkFirst(t, y, v, cool, limits, max(first, 0), wantE)
		found[wantE]++
	}
	if found[api.OK] < 500 || found[api.ErrNone] < 500 || found[api.ErrLimit] < 500 {
		t.Error("the vats do not show what they are to show", found)
	}
}
