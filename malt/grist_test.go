package malt_test

import (
	"math/rand"
	"slices"
	"testing"

	"wormtub/api"
	"wormtub/malt"
)

// lot returns a lot of barley.
func lot(weight, nitrogen api.Span, ready, price int) api.Barley {
	return api.Barley{Weight: weight, Nitrogen: nitrogen, Ready: ready, Price: price}
}

// plain returns a lot of which weight and nitrogen are known, and that is ready.
func plain(weight, nitrogen, price int) api.Barley {
	return lot(one(weight), one(nitrogen), 0, price)
}

const mostWeight = api.MaxAmount / api.MaxBarley

// P2.4: what can be chosen, and which choice is taken.
func TestGrist(t *testing.T) {
	most := plain(mostWeight, api.Whole, api.MaxPrice)
	for name, x := range map[string]struct {
		l                   []api.Barley
		day, need, nitrogen int
		chosen              []int
		price               int
		e                   api.Errno
	}{
		"the cheapest one": {
			[]api.Barley{plain(10, 100, 7), plain(10, 100, 5), plain(10, 100, 6)}, 0, 10, 100, []int{1}, 5, api.OK,
		},
		"two are cheaper than one": {
			[]api.Barley{plain(20, 100, 9), plain(10, 100, 4), plain(10, 100, 4)}, 0, 20, 100, []int{1, 2}, 8, api.OK,
		},
		"fewest lots of the same price": {
			[]api.Barley{plain(10, 100, 4), plain(10, 100, 4), plain(20, 100, 8)}, 0, 20, 100, []int{2}, 8, api.OK,
		},
		"a lot for nothing is not taken": {
			[]api.Barley{plain(10, 100, 0), plain(20, 100, 8)}, 0, 20, 100, []int{1}, 8, api.OK,
		},
		"first in order": {
			[]api.Barley{plain(5, 100, 3), plain(10, 100, 4), plain(10, 100, 4), plain(10, 100, 4)}, 0, 20, 100, []int{1, 2}, 8, api.OK,
		},
		"first in order, and not with the least indices only": {
			[]api.Barley{plain(10, 100, 2), plain(20, 100, 4), plain(20, 100, 4), plain(30, 100, 6)}, 0, 40, 100, []int{0, 3}, 8, api.OK,
		},
		"nothing is needed":    {[]api.Barley{plain(10, 100, 0)}, 0, 0, 0, nil, 0, api.OK},
		"nothing of nothing":   {nil, 0, 0, 0, nil, 0, api.OK},
		"something of nothing": {nil, 0, 1, api.Whole, nil, 0, api.ErrNone},
		"just enough":          {[]api.Barley{plain(10, 100, 7)}, 0, 10, 100, []int{0}, 7, api.OK},
		"not enough":           {[]api.Barley{plain(10, 100, 7)}, 0, 11, 100, nil, 0, api.ErrNone},
		"ready that day":       {[]api.Barley{lot(one(10), one(0), 5, 7)}, 5, 10, 0, []int{0}, 7, api.OK},
		"not ready":            {[]api.Barley{lot(one(10), one(0), 5, 7)}, 4, 10, 0, nil, 0, api.ErrNone},
		"the lesser weight counts": {
			[]api.Barley{lot(span(9, 20), one(0), 0, 7)}, 0, 10, 100, nil, 0, api.ErrNone,
		},
		"the lesser weight is enough": {
			[]api.Barley{lot(span(10, 20), one(0), 0, 7)}, 0, 10, 100, []int{0}, 7, api.OK,
		},
		"just not too rich": {
			[]api.Barley{lot(span(10, 20), span(1, 50), 0, 7)}, 0, 10, 100, []int{0}, 7, api.OK,
		},
		"too rich by one": {
			[]api.Barley{lot(span(10, 20), span(1, 51), 0, 7)}, 0, 10, 101, nil, 0, api.ErrNone,
		},
		"too rich for the lesser weight": {
			[]api.Barley{lot(span(10, 20), span(50, 50), 0, 7)}, 0, 10, 99, nil, 0, api.ErrNone,
		},
		"a poor lot makes a rich one possible": {
			[]api.Barley{plain(10, 200, 1), plain(10, 0, 9)}, 0, 5, 100, []int{1}, 9, api.OK,
		},
		"both, as more is needed": {
			[]api.Barley{plain(10, 200, 1), plain(10, 0, 9)}, 0, 20, 100, []int{0, 1}, 10, api.OK,
		},
		"the greatest numbers": {
			slices.Repeat([]api.Barley{most}, api.MaxBarley), api.MaxDay, api.MaxBarley * mostWeight, api.Whole,
			[]int{0, 1, 2, 3, 4, 5, 6, 7, 8, 9, 10, 11}, api.MaxBarley * api.MaxPrice, api.OK,
		},
		"more than there can be": {
			slices.Repeat([]api.Barley{most}, api.MaxBarley), 0, api.MaxBarley*mostWeight + 1, api.Whole, nil, 0, api.ErrNone,
		},
		"the greatest need": {
			slices.Repeat([]api.Barley{most}, api.MaxBarley), 0, api.MaxAmount, api.Whole, nil, 0, api.ErrNone,
		},
		"the last lot of twelve": {
			append(slices.Repeat([]api.Barley{plain(1, 0, 5)}, api.MaxBarley-1), plain(2, 0, 4)), 0, 1, 0, []int{11}, 4, api.OK,
		},
	} {
		chosen, price, e := malt.Grist(x.l, x.day, x.need, x.nitrogen)
		if !slices.Equal(chosen, x.chosen) || price != x.price || e != x.e {
			t.Error(name, chosen, price, e)
		}
	}
}

// badLots returns lots that are not valid.
func badLots() []api.Barley {
	var l []api.Barley
	for _, s := range badSpans(mostWeight) {
		l = append(l, lot(s, one(1), 0, 0))
	}
	for _, s := range badSpans(api.Whole) {
		l = append(l, lot(one(1), s, 0, 0))
	}
	for _, n := range []int{-1, minInt, maxInt} {
		l = append(l, lot(one(1), one(1), n, 0), lot(one(1), one(1), 0, n))
	}
	return append(l, lot(one(1), one(1), api.MaxDay+1, 0), lot(one(1), one(1), 0, api.MaxPrice+1))
}

// checkGrist checks that Grist has an error, and nothing beside it.
func checkGrist(t *testing.T, l []api.Barley, day, need, nitrogen int, want api.Errno) {
	t.Helper()
	if chosen, price, e := malt.Grist(l, day, need, nitrogen); len(chosen) != 0 || price != 0 || e != want {
		t.Error(l, day, need, nitrogen, chosen, price, e)
	}
}

// P2.4: lots that are not valid have ErrArg, numbers beyond their range ErrRange, ahead of ErrNone.
func TestGristErrors(t *testing.T) {
	good := plain(10, 100, 7)
	for _, bad := range badLots() {
		for _, l := range [][]api.Barley{{bad}, {good, bad}, {bad, good}, append(slices.Repeat([]api.Barley{good}, 11), bad)} {
			checkGrist(t, l, 0, 5, 100, api.ErrArg)
			checkGrist(t, l, 0, 0, 0, api.ErrArg)
			checkGrist(t, l, -1, 5, 100, api.ErrArg)
		}
	}
	many := slices.Repeat([]api.Barley{good}, api.MaxBarley+1)
	checkGrist(t, many, 0, 5, 100, api.ErrArg)
	checkGrist(t, many, -1, 5, 100, api.ErrArg)
	for _, l := range [][]api.Barley{nil, {good}} {
		for _, n := range []int{-1, minInt, maxInt} {
			checkGrist(t, l, n, 5, 100, api.ErrRange)
			checkGrist(t, l, 0, n, 100, api.ErrRange)
			checkGrist(t, l, 0, 5, n, api.ErrRange)
		}
		checkGrist(t, l, api.MaxDay+1, 5, 100, api.ErrRange)
		checkGrist(t, l, 0, api.MaxAmount+1, 100, api.ErrRange)
		checkGrist(t, l, 0, 5, api.Whole+1, api.ErrRange)
		checkGrist(t, l, api.MaxDay, api.MaxAmount, api.Whole, api.ErrNone)
	}
	edge := lot(span(0, mostWeight), span(0, api.Whole), api.MaxDay, api.MaxPrice)
	checkGrist(t, []api.Barley{edge}, api.MaxDay, 1, api.Whole, api.ErrNone)
	checkGrist(t, []api.Barley{edge}, api.MaxDay, 0, api.Whole, api.OK)
}

// rightGrist goes through all choices in lexicographic order.
func rightGrist(l []api.Barley, day, need, nitrogen int) (best []int, price int, e api.Errno) {
	e = api.ErrNone
	var from func(chosen []int)
	from = func(chosen []int) {
		weight, rich, sum, ready := 0, 0, 0, true
		for _, i := range chosen {
			weight += l[i].Weight.Lo
			rich += l[i].Weight.Hi * l[i].Nitrogen.Hi
			sum += l[i].Price
			ready = ready && l[i].Ready <= day
		}
		better := e != api.OK || sum < price || sum == price && len(chosen) < len(best)
		if ready && weight >= need && rich <= nitrogen*weight && better {
			best, price, e = slices.Clone(chosen), sum, api.OK
		}
		first := 0
		if len(chosen) > 0 {
			first = chosen[len(chosen)-1] + 1
		}
		for i := first; i < len(l); i++ {
			from(append(slices.Clone(chosen), i))
		}
	}
	from(nil)
	return best, price, e
}

// P2.4 and P2.6: the choice among many equal ones; none costs less.
func TestGristAny(t *testing.T) {
	r := rand.New(rand.NewSource(4))
	found := 0
	for n := range 1500 {
		var l []api.Barley
		count := r.Intn(8)
		if n%100 == 0 {
			count = api.MaxBarley
		}
		for range count {
			l = append(l, lot(anySpan(r, 0, 20), anySpan(r, 0, 200), r.Intn(4), r.Intn(5)))
		}
		day, need, nitrogen := r.Intn(6), r.Intn(40), r.Intn(400)
		want, wantPrice, wantE := rightGrist(l, day, need, nitrogen)
		chosen, price, e := malt.Grist(l, day, need, nitrogen)
		if !slices.Equal(chosen, want) || price != wantPrice || e != wantE {
			t.Fatal(l, day, need, nitrogen, chosen, price, e, "want", want, wantPrice, wantE)
		}
		if e == api.OK {
			found++
		}
		checkTurned(t, l, day, need, nitrogen, price, len(chosen), e)
	}
	if found < 300 || found > 1200 {
		t.Error("the lots do not show what they are to show", found)
	}
}

// checkTurned checks that price and count are the same if the lots come the other way round.
func checkTurned(t *testing.T, l []api.Barley, day, need, nitrogen, price, count int, e api.Errno) {
	t.Helper()
	turned := slices.Clone(l)
	slices.Reverse(turned)
	other, otherPrice, otherE := malt.Grist(turned, day, need, nitrogen)
	if otherPrice != price || len(other) != count || otherE != e {
		t.Fatal(l, day, need, nitrogen, other, otherPrice, otherE)
	}
}
