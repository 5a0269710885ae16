package wash_test

import (
	"math/rand"
	"slices"
	"testing"

	"wormtub/api"
	"wormtub/wash"
)

// checkCool checks what Cool returns.
func checkCool(t *testing.T, y api.Yeast, v api.Vat, choices []api.Span, hours int, limits api.Span, want []int, wantE api.Errno) {
	t.Helper()
	if got, e := wash.Cool(y, v, choices, hours, limits); !slices.Equal(got, want) || e != wantE {
		t.Fatal(y, v, choices, hours, limits, got, e, "want", want, wantE)
	}
}

// P3.5: the examples.
func TestCool(t *testing.T) {
	y, v, choices := exampleYeast(), exampleVat(), []api.Span{one(0), span(1000, 1200)}
	checkCool(t, y, v, choices, 4, span(23500, 27600), []int{0, 1, 1, 1}, api.OK)
	checkCool(t, y, v, choices, 4, span(24000, 27600), nil, api.ErrNone)
	checkCool(t, y, v, choices, 4, span(23978, 27600), []int{0, 1, 1, 1}, api.OK)
	checkCool(t, y, v, choices, 4, span(23979, 27600), nil, api.ErrNone)
	checkCool(t, y, v, choices, 4, span(minInt, maxInt), []int{0, 0, 0, 0}, api.OK)
	checkCool(t, y, v, choices, 0, span(23500, 27600), nil, api.OK)
	checkCool(t, y, v, choices[:1], 1, span(25750, 26500), []int{0}, api.OK)
	checkCool(t, y, v, choices[:1], 1, span(25751, 26500), nil, api.ErrNone)
	checkCool(t, y, v, choices[:1], 1, span(25750, 26499), nil, api.ErrNone)
	checkCool(t, y, v, choices[1:], 6, span(minInt, maxInt), make([]int, 6), api.OK)
}

// P3.5: without hours there is nothing to choose, wherever the temperature is.
func TestCoolNoHours(t *testing.T) {
	for _, choices := range [][]api.Span{{one(0)}, {one(5), one(6), one(7), one(8)}} {
		checkCool(t, exampleYeast(), exampleVat(), choices, 0, one(0), nil, api.OK)
	}
}

// P3.5: the least sum counts first, then the order; a choice with a greater index does
// not have to cool more.
func TestCoolOrder(t *testing.T) {
	still := plainYeast(one(0))
	at := func(temp int) api.Vat { return api.Vat{Temp: one(temp), Capacity: 1} }
	choices := []api.Span{one(0), one(10), one(20), one(30)}
	checkCool(t, still, at(100), choices, 1, span(0, 70), []int{3}, api.OK)
	checkCool(t, still, at(100), choices, 1, span(0, 69), nil, api.ErrNone)
	checkCool(t, still, at(70), choices, 3, span(0, 70), []int{0, 0, 0}, api.OK)
	// Behind each hour it must not be above 60: the first one has to bring that.
	checkCool(t, still, at(80), choices, 3, span(0, 60), []int{2, 0, 0}, api.OK)
	checkCool(t, still, at(80), []api.Span{one(30), one(20), one(10), one(0)}, 3, span(20, 60), []int{0, 0, 3}, api.OK) // and not 0, 1, 2, or 1, 1, 1
	checkCool(t, still, at(80), []api.Span{one(30), one(20), one(10), one(0)}, 3, span(30, 60), []int{0, 1, 3}, api.OK)
	// Of choices that are alike the first one is meant.
	checkCool(t, still, at(80), []api.Span{one(0), one(10), one(10), one(10)}, 2, span(0, 70), []int{1, 0}, api.OK)
	checkCool(t, still, at(80), []api.Span{one(0), one(0)}, 6, one(80), make([]int, 6), api.OK)
	checkCool(t, still, at(80), []api.Span{one(9), one(9), one(9), one(0)}, 6, one(80), slices.Repeat([]int{3}, 6), api.OK)
}

// P3.5: choices with which an hour has ErrLimit are none, however wide the limits are.
func TestCoolLimit(t *testing.T) {
	still, cold := plainYeast(one(0)), api.Vat{Temp: one(api.MinDegree), Capacity: 1}
	wide := span(minInt, maxInt)
	checkCool(t, still, cold, []api.Span{one(1)}, 1, wide, nil, api.ErrNone)
	checkCool(t, still, cold, []api.Span{one(1), one(2), one(0)}, 2, wide, []int{2, 2}, api.OK)
	cold.Temp = one(api.MinDegree + 1)
	checkCool(t, still, cold, []api.Span{one(1), one(2), one(0)}, 2, wide, []int{0, 2}, api.OK)
	full := api.Vat{Sugar: one(10), Eaten: one(api.MaxSugar), Capacity: 1}
	checkCool(t, plainYeast(one(1)), full, []api.Span{one(0), one(1)}, 1, wide, nil, api.ErrNone)
}

// P3.5: what is not valid has ErrArg, ahead of ErrRange for how many choices and hours.
func TestCoolErrors(t *testing.T) {
	y, v, limits, good := exampleYeast(), exampleVat(), span(0, 100000), []api.Span{one(0), one(9)}
	five := make([]api.Span, api.MaxChoices+1)
	for _, hours := range []int{1, -1, api.MaxCooled + 1} {
		for _, choices := range [][]api.Span{nil, good, five} {
			checkCool(t, y, v, choices, hours, span(1, 0), nil, api.ErrArg)
			checkCool(t, y, v, choices, hours, span(maxInt, minInt), nil, api.ErrArg)
			for _, bad := range badYeasts() {
				checkCool(t, bad, v, choices, hours, limits, nil, api.ErrArg)
			}
			for _, bad := range badVats() {
				checkCool(t, y, bad, choices, hours, limits, nil, api.ErrArg)
			}
			for _, bad := range badCoolings() {
				checkCool(t, y, v, append(slices.Clone(choices), bad), hours, limits, nil, api.ErrArg)
			}
		}
	}
	for _, choices := range [][]api.Span{nil, {}, five, make([]api.Span, 1000)} {
		checkCool(t, y, v, choices, 1, limits, nil, api.ErrRange)
		checkCool(t, y, v, choices, 0, limits, nil, api.ErrRange)
	}
	for _, hours := range []int{-1, api.MaxCooled + 1, minInt, maxInt} {
		checkCool(t, y, v, good, hours, limits, nil, api.ErrRange)
		checkCool(t, y, v, good, hours, one(0), nil, api.ErrRange)
	}
	checkCool(t, y, v, five[1:], api.MaxCooled, limits, make([]int, 6), api.OK)
}

// ways returns all choices for some hours, in lexicographic order.
func ways(choices, hours int) [][]int {
	l := [][]int{nil}
	for range hours {
		var longer [][]int
		for _, way := range l {
			for i := range choices {
				longer = append(longer, append(slices.Clone(way), i))
			}
		}
		l = longer
	}
	return l
}

// sum returns the sum of some indices.
func sum(l []int) int {
	n := 0
	for _, i := range l {
		n += i
	}
	return n
}

// picked returns the coolings with some indices.
func picked(choices []api.Span, way []int) []api.Span {
	var l []api.Span
	for _, i := range way {
		l = append(l, choices[i])
	}
	return l
}

// rightCool goes through all choices, each by First.
func rightCool(y api.Yeast, v api.Vat, choices []api.Span, hours int, limits api.Span) (best []int, e api.Errno) {
	e = api.ErrNone
	for _, way := range ways(len(choices), hours) {
		if _, bad := wash.First(y, v, picked(choices, way), limits); bad != api.ErrNone {
			continue
		}
		if e == api.ErrNone || sum(way) < sum(best) {
			best, e = way, api.OK
		}
	}
	return best, e
}

// P3.5 and P3.11: washes of all kinds; what Cool returns First does not complain of,
// and nothing with a lesser sum does it.
func TestCoolAny(t *testing.T) {
	r := rand.New(rand.NewSource(6))
	found, none, most := 0, 0, 0
	for n := range 1500 {
		y, v := anyYeast(r), anyVat(r, 50000)
		v.Capacity = 3000000 + r.Intn(20000000)
		if n%5 == 0 {
			nearLimit(r, &v)
		}
		hours, choices := r.Intn(5), anyCooling(r, 1+r.Intn(api.MaxChoices))
		if n%100 == 0 {
			hours, choices = api.MaxCooled, anyCooling(r, api.MaxChoices)
		}
		limits := span(v.Temp.Lo-r.Intn(6000), v.Temp.Hi+r.Intn(3000))
		want, wantE := rightCool(y, v, choices, hours, limits)
		checkCool(t, y, v, choices, hours, limits, want, wantE)
		if wantE != api.OK {
			none++
			continue
		}
		found++
		most = max(most, sum(want))
		checkFirst(t, y, v, picked(choices, want), limits, 0, api.ErrNone)
	}
	if found < 300 || none < 300 || most < 6 {
		t.Error("the washes do not show what they are to show", found, none, most)
	}
}
