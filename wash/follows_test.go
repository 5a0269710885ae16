package wash_test

import (
	"math/big"
	"math/rand"
	"reflect"
	"slices"
	"sync"
	"testing"

	"wormtub/api"
	"wormtub/wash"
)

// truth is what is true of a wash; no number has to be whole.
type truth struct{ sugar, eaten, spirit, gas, out, temp *big.Rat }

// truthOf returns something that may be true of a vat.
func truthOf(r *rand.Rand, v api.Vat) truth {
	return truth{
		anyIn(r, v.Sugar), anyIn(r, v.Eaten), anyIn(r, v.Spirit), anyIn(r, v.Gas), anyIn(r, v.Out), anyIn(r, v.Temp),
	}
}

// in tells whether all that is true is in the spans of a vat.
func (x truth) in(v api.Vat) bool {
	for i, n := range []*big.Rat{x.sugar, x.eaten, x.spirit, x.gas, x.out, x.temp} {
		if !holds(spans(v)[i], n) {
			return false
		}
	}
	return true
}

// later returns what may be true an hour later: the yeast eats at the true temperature.
func (x truth) later(r *rand.Rand, y api.Yeast, v api.Vat, cool api.Span) truth {
	rate := anyIn(r, rightRate(y, one(floor(x.temp))))
	eaten := over(times(x.sugar, rate), rat(1000))
	gives := func(s api.Span) *big.Rat { return over(times(eaten, anyIn(r, s)), rat(1000)) }
	out := gives(y.Gas)
	warmer := over(times(gives(y.Heat), rat(1000000)), rat(v.Capacity))
	return truth{
		sugar: less(x.sugar, eaten), eaten: plus(x.eaten, eaten), spirit: plus(x.spirit, gives(y.Spirit)),
		gas: plus(x.gas, out), out: out, temp: less(plus(x.temp, warmer), anyIn(r, cool)),
	}
}

// checkDone checks that enough of what was tried had no error.
func checkDone(t *testing.T, done int) {
	t.Helper()
	if done < 3000 {
		t.Error("too little of what was tried shows anything", done)
	}
}

// P3.9: whatever is eaten in each hour, whatever a gram gives, and whatever the cooling
// takes, all is in the spans; and no sugar comes or goes otherwise.
func TestTruthIsInside(t *testing.T) {
	r := rand.New(rand.NewSource(11))
	done := 0
	for n := range 5000 {
		y, v := anyYeast(r), anyVat(r, []int{3, 50, 1000000}[n%3])
		cool := anyCooling(r, r.Intn(5))
		vats, e := wash.Ferment(y, v, cool)
		if e != api.OK {
			continue
		}
		x := truthOf(r, v)
		all, was := plus(x.sugar, x.eaten), v
		for i, behind := range vats {
			x = x.later(r, y, v, cool[i])
			if !x.in(behind) || plus(x.sugar, x.eaten).Cmp(all) != 0 {
				t.Fatal(y, v, cool, i, behind, x)
			}
			checkSugar(t, was, behind)
			was = behind
			done++
		}
	}
	checkDone(t, done)
}

// checkSugar checks that what was eaten and what is left can be the sugar that there was.
func checkSugar(t *testing.T, v, behind api.Vat) {
	t.Helper()
	if !inside(add(v.Sugar, v.Eaten), add(behind.Sugar, behind.Eaten)) {
		t.Fatal(v, behind)
	}
}

// P3.9: an end of a span is not farther off than the rounding, where all is known.
func TestExact(t *testing.T) {
	y := api.Yeast{Rates: []api.Span{one(100)}, Spirit: one(500), Gas: one(250), Heat: one(10)}
	vats, e := wash.Ferment(y, api.Vat{Sugar: one(1000000), Capacity: 1000000}, []api.Span{one(500), one(0)})
	want := []api.Vat{
		{Sugar: one(900000), Eaten: one(100000), Spirit: one(50000), Gas: one(25000), Out: one(25000), Temp: one(500), Capacity: 1000000},
		{Sugar: one(810000), Eaten: one(190000), Spirit: one(95000), Gas: one(47500), Out: one(22500), Temp: one(1400), Capacity: 1000000},
	}
	if !slices.Equal(vats, want) || e != api.OK {
		t.Error(vats, e)
	}
}

// narrowYeast returns yeast that is known better.
func narrowYeast(r *rand.Rand, y api.Yeast) api.Yeast {
	narrow := api.Yeast{
		Temps: y.Temps, Spirit: narrower(r, y.Spirit), Gas: narrower(r, y.Gas), Heat: narrower(r, y.Heat),
	}
	for _, s := range y.Rates {
		narrow.Rates = append(narrow.Rates, narrower(r, s))
	}
	return narrow
}

// narrowVat returns a vat that is known better.
func narrowVat(r *rand.Rand, v api.Vat) api.Vat {
	return api.Vat{
		Sugar: narrower(r, v.Sugar), Eaten: narrower(r, v.Eaten), Spirit: narrower(r, v.Spirit),
		Gas: narrower(r, v.Gas), Out: narrower(r, v.Out), Temp: narrower(r, v.Temp), Capacity: v.Capacity,
	}
}

// P3.9: narrower spans leave spans that are not wider.
func TestNarrower(t *testing.T) {
	r := rand.New(rand.NewSource(12))
	done := 0
	for n := range 10000 {
		y, v := anyYeast(r), anyVat(r, []int{3, 50, 1000000}[n%3])
		cool := anyCooling(r, 1+r.Intn(5))
		wide, e := wash.Ferment(y, v, cool)
		if e != api.OK {
			continue
		}
		better := slices.Clone(cool)
		for i, s := range cool {
			better[i] = narrower(r, s)
		}
		narrow, e := wash.Ferment(narrowYeast(r, y), narrowVat(r, v), better)
		if e != api.OK {
			t.Fatal(y, v, cool, better, e)
		}
		for i := range wide {
			for k, s := range spans(narrow[i]) {
				if !inside(s, spans(wide[i])[k]) {
					t.Fatal(y, v, cool, better, wide, narrow)
				}
			}
		}
		done++
	}
	checkDone(t, done)
}

// R4: arguments are only read, and results are new memory.
func TestMemory(t *testing.T) {
	y, v := exampleYeast(), exampleVat()
	cool := []api.Span{one(0), span(1000, 1200)}
	hours := func() ([]api.Vat, []int, []api.Span) {
		vats, _ := wash.Ferment(y, v, cool)
		chosen, _ := wash.Cool(y, v, cool, 4, span(23500, 27600))
		rooms, _ := wash.Air(cool[1], cool, 0)
		wash.First(y, v, cool, span(0, 1))
		wash.Hour(y, v, cool[1])
		return vats, chosen, rooms
	}
	vats, chosen, rooms := hours()
	vats[0], vats[1], chosen[0], chosen[1], rooms[0], rooms[1] = api.Vat{}, api.Vat{}, -1, -1, one(-1), one(-1)
	vats, chosen, rooms = hours()
	if vats[0].Temp != span(25750, 26500) || !slices.Equal(chosen, []int{0, 1, 1, 1}) || rooms[1] != span(2000, 2400) {
		t.Error(vats, chosen, rooms)
	}
	if !reflect.DeepEqual(y, exampleYeast()) || v != exampleVat() || !slices.Equal(cool, []api.Span{one(0), span(1000, 1200)}) {
		t.Error(y, v, cool)
	}
}

// P10: calls at the same time do not disturb each other, and have the same results.
func TestAgain(t *testing.T) {
	y, v, cool := exampleYeast(), exampleVat(), []api.Span{one(0), span(1000, 1200)}
	vats, _ := wash.Ferment(y, v, cool)
	var wait sync.WaitGroup
	for range 8 {
		wait.Go(func() {
			for range 100 {
				chosen, e := wash.Cool(y, v, cool, 4, span(23500, 27600))
				again, _ := wash.Ferment(y, v, cool)
				none, noneE := wash.Cool(y, v, cool, 4, span(24000, 27600))
				if !slices.Equal(chosen, []int{0, 1, 1, 1}) || e != api.OK || !slices.Equal(again, vats) ||
					len(none) != 0 || noneE != api.ErrNone {
					t.Error(chosen, e, again, none, noneE)
				}
			}
		})
	}
	wait.Wait()
}
