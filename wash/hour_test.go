package wash_test

import (
	"math/rand"
	"testing"

	"wormtub/api"
	"wormtub/wash"
)

// P3.2: the examples.
func TestHour(t *testing.T) {
	y, v := exampleYeast(), exampleVat()
	want := api.Vat{
		Sugar: span(900000, 950000), Eaten: span(50000, 100000), Spirit: span(32000, 65000),
		Gas: span(24000, 49000), Out: span(24000, 49000), Temp: span(25750, 26500), Capacity: 40000000,
	}
	if got, e := wash.Hour(y, v, one(0)); got != want || e != api.OK {
		t.Error(got, e)
	}
	want.Temp = span(24550, 25500)
	if got, e := wash.Hour(y, v, span(1000, 1200)); got != want || e != api.OK {
		t.Error(got, e)
	}
}

// P3.2: what was there before stays, but for the gas of the last hour.
func TestHourMore(t *testing.T) {
	v := exampleVat()
	v.Eaten, v.Spirit, v.Gas, v.Out = span(1, 2), span(3, 5), span(7, 11), span(900, 901)
	want := api.Vat{
		Sugar: span(900000, 950000), Eaten: span(50001, 100002), Spirit: span(32003, 65005),
		Gas: span(24007, 49011), Out: span(24000, 49000), Temp: span(25750, 26500), Capacity: 40000000,
	}
	if got, e := wash.Hour(exampleYeast(), v, one(0)); got != want || e != api.OK {
		t.Error(got, e)
	}
}

// P3.2: each division is rounded at once, the Lo down and the Hi up.
func TestHourRounds(t *testing.T) {
	y := api.Yeast{Rates: []api.Span{one(333)}, Spirit: one(500), Gas: one(999), Heat: one(1)}
	v := api.Vat{Sugar: one(10), Temp: one(-5), Capacity: 3}
	// What is eaten is 3.33, so 3 to 4, of which all else is computed.
	want := api.Vat{
		Sugar: span(6, 7), Eaten: span(3, 4), Spirit: span(1, 2), Gas: span(2, 4), Out: span(2, 4),
		Temp: span(995, 1329), Capacity: 3,
	}
	if got, e := wash.Hour(y, v, one(0)); got != want || e != api.OK {
		t.Error(got, e)
	}
	v.Capacity = 7000
	want.Capacity, want.Temp = 7000, span(-8, -6)
	if got, e := wash.Hour(y, v, span(2, 3)); got != want || e != api.OK {
		t.Error(got, e)
	}
}

// P3.2: which ranges a span of temperatures has.
func TestHourRates(t *testing.T) {
	for _, x := range []struct {
		temp, rate api.Span
	}{
		{one(19999), span(10, 20)}, {one(20000), span(50, 100)}, {one(29999), span(50, 100)}, {one(30000), span(0, 5)},
		{span(19999, 20000), span(10, 100)}, {span(29999, 30000), span(0, 100)}, {span(20000, 29999), span(50, 100)},
		{span(19999, 30000), span(0, 100)}, {span(0, 19999), span(10, 20)}, {span(30000, 40000), span(0, 5)},
		{one(api.MinDegree), span(10, 20)}, {one(api.MaxDegree), span(0, 5)},
		{span(api.MinDegree, api.MaxDegree), span(0, 100)},
	} {
		y, v := exampleYeast(), exampleVat()
		y.Heat, v.Temp = one(0), x.temp
		got, e := wash.Hour(y, v, one(0))
		if got.Eaten != span(1000*x.rate.Lo, 1000*x.rate.Hi) || got.Temp != x.temp || e != api.OK {
			t.Error(x, got, e)
		}
	}
	for _, temp := range []int{api.MinDegree, 0, api.MaxDegree} {
		v := exampleVat()
		v.Temp = one(temp)
		if got, e := wash.Hour(plainYeast(span(3, 4)), v, one(0)); got.Eaten != span(3000, 4000) || e != api.OK {
			t.Error(temp, got, e)
		}
	}
}

// P3.2: as many temperatures as there can be, also the first and the last ones.
func TestHourManyRates(t *testing.T) {
	y, v := manyTemps(api.MaxYeast), exampleVat()
	y.Heat = one(0)
	for i := range api.MaxYeast {
		v.Temp = one(api.MinDegree + 1000*i)
		if got, e := wash.Hour(y, v, one(0)); got.Eaten != one(1000*i) || e != api.OK {
			t.Error(i, got, e)
		}
	}
	y = plainYeast(one(1))
	y.Temps, y.Rates = []int{api.MinDegree, api.MaxDegree}, []api.Span{one(0), one(3), span(5, 7)}
	for temp, want := range map[api.Span]api.Span{
		one(api.MinDegree): one(3000), one(api.MaxDegree - 1): one(3000), one(api.MaxDegree): span(5000, 7000),
		span(api.MaxDegree-1, api.MaxDegree): span(3000, 7000),
	} {
		v.Temp = temp
		if got, e := wash.Hour(y, v, one(0)); got.Eaten != want || e != api.OK {
			t.Error(temp, got, e)
		}
	}
}

// P3.2: hours at the limits, and beyond them.
func TestHourLimits(t *testing.T) {
	most := api.MaxSugar
	all := api.Yeast{Rates: []api.Span{one(1000)}, Spirit: one(1000), Gas: one(1000), Heat: one(0)}
	hot := api.Yeast{Rates: []api.Span{one(1000)}, Spirit: one(0), Gas: one(0), Heat: one(api.MaxJoules)}
	for _, x := range []struct {
		y    api.Yeast
		v    api.Vat
		cool api.Span
		want api.Errno
	}{
		{all, api.Vat{Sugar: one(most), Capacity: 1}, one(0), api.OK},
		{all, api.Vat{Sugar: one(10), Eaten: span(0, most-10), Capacity: 1}, one(0), api.OK},
		{all, api.Vat{Sugar: span(0, 10), Eaten: span(0, most-9), Capacity: 1}, one(0), api.ErrLimit},
		{all, api.Vat{Sugar: one(10), Spirit: span(0, most-10), Capacity: 1}, one(0), api.OK},
		{all, api.Vat{Sugar: one(10), Spirit: span(0, most-9), Capacity: 1}, one(0), api.ErrLimit},
		{all, api.Vat{Sugar: one(10), Gas: span(0, most-10), Capacity: 1}, one(0), api.OK},
		{all, api.Vat{Sugar: one(10), Gas: span(0, most-9), Capacity: 1}, one(0), api.ErrLimit},
		{all, api.Vat{Sugar: one(10), Out: one(most), Capacity: 1}, one(0), api.OK},
		{hot, api.Vat{Sugar: one(15), Capacity: 1000}, one(0), api.OK},
		{hot, api.Vat{Sugar: one(15), Temp: span(0, 1), Capacity: 1000}, one(0), api.ErrLimit},
		{hot, api.Vat{Sugar: one(15), Temp: span(0, 1), Capacity: 1000}, one(1), api.OK},
		{hot, api.Vat{Sugar: one(15), Temp: span(0, 1), Capacity: 1000}, span(0, 1), api.ErrLimit},
		{hot, api.Vat{Sugar: one(most), Capacity: 1}, one(api.MaxDegree), api.ErrLimit},
		{hot, api.Vat{Sugar: one(most), Capacity: api.MaxCapacity}, one(0), api.OK},
		{plainYeast(one(0)), api.Vat{Temp: one(api.MinDegree), Capacity: 1}, one(0), api.OK},
		{plainYeast(one(0)), api.Vat{Temp: one(api.MinDegree), Capacity: 1}, span(0, 1), api.ErrLimit},
		{plainYeast(one(0)), api.Vat{Temp: one(api.MaxDegree), Capacity: 1}, one(api.MaxDegree), api.OK},
		{plainYeast(one(0)), api.Vat{Temp: one(0), Capacity: 1}, one(-api.MinDegree), api.OK},
		{plainYeast(one(0)), api.Vat{Temp: one(0), Capacity: 1}, one(-api.MinDegree + 1), api.ErrLimit},
	} {
		got, e := wash.Hour(x.y, x.v, x.cool)
		want, _ := rightHour(x.y, x.v, x.cool)
		if got != want || e != x.want {
			t.Error(x, got, e, "want", want)
		}
	}
}

// P3.2: yeast, vats and coolings that are not valid have ErrArg, ahead of ErrLimit.
func TestHourInvalid(t *testing.T) {
	y, v := exampleYeast(), exampleVat()
	check := func(y api.Yeast, v api.Vat, cool api.Span) {
		t.Helper()
		if got, e := wash.Hour(y, v, cool); got != (api.Vat{}) || e != api.ErrArg {
			t.Error(y, v, cool, got, e)
		}
	}
	for _, bad := range badYeasts() {
		check(bad, v, one(0))
		check(bad, v, one(api.MaxDegree))
	}
	for _, bad := range badVats() {
		check(y, bad, one(0))
		check(y, bad, one(api.MaxDegree))
	}
	for _, bad := range badCoolings() {
		check(y, v, bad)
		check(y, api.Vat{Temp: one(api.MinDegree), Capacity: 1}, bad)
	}
	check(api.Yeast{}, api.Vat{}, api.Span{})
	if got, e := wash.Hour(manyTemps(api.MaxYeast), v, one(0)); e != api.OK {
		t.Error(got, e)
	}
}

// nearLimit puts one of the spans of a vat near the end of its limits.
func nearLimit(r *rand.Rand, v *api.Vat) {
	if i := r.Intn(5); i < 4 {
		*[]*api.Span{&v.Eaten, &v.Spirit, &v.Gas, &v.Out}[i] = span(0, api.MaxSugar-r.Intn(20))
	} else {
		v.Temp = []api.Span{one(api.MinDegree + r.Intn(2000)), one(api.MaxDegree - r.Intn(2000))}[r.Intn(2)]
	}
}

// P3.2: hours of all kinds.
func TestHourAny(t *testing.T) {
	r := rand.New(rand.NewSource(4))
	limits := 0
	for n := range 20000 {
		most := []int{3, 50, 1000000, api.MaxSugar}[n%4]
		y, v, cool := anyYeast(r), anyVat(r, most), anySpan(r, 0, 3000)
		if n%3 == 0 {
			nearLimit(r, &v)
		}
		want, wantE := rightHour(y, v, cool)
		if got, e := wash.Hour(y, v, cool); got != want || e != wantE {
			t.Fatal(y, v, cool, got, e, "want", want, wantE)
		}
		if wantE != api.OK {
			limits++
		}
	}
	if limits < 100 || limits > 10000 {
		t.Error("the hours do not show what they are to show", limits)
	}
}
