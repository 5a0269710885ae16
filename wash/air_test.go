package wash_test

import (
	"math/rand"
	"slices"
	"testing"

	"wormtub/api"
	"wormtub/wash"
)

// checkAir checks what Air returns.
func checkAir(t *testing.T, start api.Span, in []api.Span, vent int, want []api.Span, wantE api.Errno) {
	t.Helper()
	if got, e := wash.Air(start, in, vent); !slices.Equal(got, want) || e != wantE {
		t.Fatal(start, in, vent, got, e, "want", want, wantE)
	}
}

// P3.6: the example, and what is rounded.
func TestAir(t *testing.T) {
	in := []api.Span{one(100), one(100), one(100)}
	checkAir(t, one(0), in, 500, []api.Span{one(50), one(75), span(87, 88)}, api.OK)
	checkAir(t, one(0), in, 0, []api.Span{one(100), one(200), one(300)}, api.OK)
	checkAir(t, one(7), in, 1000, []api.Span{one(0), one(0), one(0)}, api.OK)
	checkAir(t, one(0), in, 1, []api.Span{span(99, 100), span(198, 200), span(297, 300)}, api.OK)
	checkAir(t, span(0, 10), []api.Span{span(1, 3), one(0)}, 250, []api.Span{span(0, 10), span(0, 8)}, api.OK)
	checkAir(t, span(1, 3), nil, 500, nil, api.OK)
	checkAir(t, one(api.MaxGas), []api.Span{one(api.MaxGas)}, 500, []api.Span{one(api.MaxGas)}, api.OK)
	checkAir(t, one(api.MaxGas), []api.Span{one(0)}, 0, []api.Span{one(api.MaxGas)}, api.OK)
}

// P3.6: too many hours, then ErrArg, then ErrRange, then ErrLimit.
func TestAirErrors(t *testing.T) {
	most := one(api.MaxGas)
	hours := make([]api.Span, api.MaxFerment)
	checkAir(t, one(0), hours, 0, hours, api.OK)
	long := append(slices.Clone(hours), one(-1))
	checkAir(t, one(0), make([]api.Span, api.MaxFerment+1), 0, nil, api.ErrLong)
	for _, start := range []api.Span{one(0), one(-1)} {
		checkAir(t, start, long, 500, nil, api.ErrLong)
		checkAir(t, start, long, -1, nil, api.ErrLong)
	}
	for _, bad := range badSpans(0, api.MaxGas) {
		for _, vent := range []int{0, 500, -1, 1001} {
			checkAir(t, bad, nil, vent, nil, api.ErrArg)
			checkAir(t, bad, []api.Span{one(5)}, vent, nil, api.ErrArg)
			checkAir(t, one(0), []api.Span{bad}, vent, nil, api.ErrArg)
			checkAir(t, most, []api.Span{most, one(0), bad}, vent, nil, api.ErrArg)
		}
	}
	for _, vent := range []int{-1, 1001, minInt, maxInt} {
		checkAir(t, one(0), nil, vent, nil, api.ErrRange)
		checkAir(t, most, []api.Span{most}, vent, nil, api.ErrRange)
	}
	checkAir(t, most, []api.Span{one(1)}, 0, nil, api.ErrLimit)
	checkAir(t, most, []api.Span{span(0, 1)}, 0, nil, api.ErrLimit)
	checkAir(t, one(0), []api.Span{one(5), most}, 0, nil, api.ErrLimit)
	checkAir(t, most, []api.Span{most}, 499, nil, api.ErrLimit)
	checkAir(t, one(0), []api.Span{most, one(1), one(0)}, 0, nil, api.ErrLimit)
}

// P3.6 and P3.9: rooms of all kinds, as the document writes the ends; what is true is
// in the spans, and what is known better leaves spans that are not wider.
func TestAirAny(t *testing.T) {
	r := rand.New(rand.NewSource(7))
	limits := 0
	for n := range 5000 {
		most := []int{3, 1000, api.MaxGas}[n%3]
		start, vent := anySpan(r, 0, most), r.Intn(1001)
		var in, lessIn, want []api.Span
		gas, truth, wantE := start, anyIn(r, start), api.OK
		var truths []func(api.Span) bool
		for range r.Intn(8) {
			more := anySpan(r, 0, most)
			in, lessIn = append(in, more), append(lessIn, narrower(r, more))
			gas = share(1000, add(gas, more), one(1000-vent))
			truth = over(times(plus(truth, anyIn(r, more)), rat(1000-vent)), rat(1000))
			now := truth
			truths = append(truths, func(s api.Span) bool { return holds(s, now) })
			if gas.Hi > api.MaxGas {
				wantE = api.ErrLimit
			}
			want = append(want, gas)
		}
		if wantE != api.OK {
			limits++
			checkAir(t, start, in, vent, nil, wantE)
			continue
		}
		checkAir(t, start, in, vent, want, api.OK)
		better, e := wash.Air(narrower(r, start), lessIn, vent)
		for i, s := range want {
			if !truths[i](s) || e != api.OK || !inside(better[i], s) {
				t.Fatal(start, in, lessIn, vent, want, better, e)
			}
		}
	}
	if limits < 100 || limits > 1500 {
		t.Error("the rooms do not show what they are to show", limits)
	}
}

// checkBound checks what Bound returns.
func checkBound(t *testing.T, most, vent, want int, wantE api.Errno) {
	t.Helper()
	if got, e := wash.Bound(most, vent); got != want || e != wantE {
		t.Fatal(most, vent, got, e, "want", want, wantE)
	}
}

// P3.7: the examples, and the edges.
func TestBound(t *testing.T) {
	for _, x := range []struct{ most, vent, want int }{
		{100, 500, 100}, {100, 250, 300}, {100, 1000, 0}, {100, 1, 99900}, {100, 999, 1}, {1, 999, 1}, {1, 501, 1},
		{1, 1, 999}, {100, 300, 234}, {0, 0, 0}, {0, 1, 0}, {0, 1000, 0},
		{api.MaxGas, 1000, 0}, {api.MaxGas, 500, api.MaxGas}, {api.MaxGas, 1, 999 * api.MaxGas},
	} {
		checkBound(t, x.most, x.vent, x.want, api.OK)
	}
	checkBound(t, 1, 0, 0, api.ErrLimit)
	checkBound(t, api.MaxGas, 0, 0, api.ErrLimit)
	for _, n := range []int{-1, minInt, maxInt} {
		checkBound(t, n, 500, 0, api.ErrRange)
		checkBound(t, n, 0, 0, api.ErrRange)
		checkBound(t, 100, n, 0, api.ErrRange)
		checkBound(t, 0, n, 0, api.ErrRange)
	}
	checkBound(t, api.MaxGas+1, 0, 0, api.ErrRange)
	checkBound(t, 5, 1001, 0, api.ErrRange)
}

// behind returns how much gas there is at most behind an hour that begins with gas.
func behind(gas, most, vent int) int {
	return share(1000, one(gas+most), one(1000-vent)).Hi
}

// P3.7 and P3.12: the bound is never left, with a gram less it can be, and more vent
// has no greater bound.
func TestBoundForEver(t *testing.T) {
	r := rand.New(rand.NewSource(8))
	for n := range 20000 {
		most, vent := r.Intn([]int{20, 5000, api.MaxGas}[n%3]+1), 1+r.Intn(1000)
		bound, e := wash.Bound(most, vent)
		if e != api.OK || behind(bound, most, vent) > bound || bound > 0 && behind(bound-1, most, vent) <= bound-1 {
			t.Fatal(most, vent, bound, e)
		}
		if more, _ := wash.Bound(most, vent+r.Intn(1001-vent)); more > bound {
			t.Fatal(most, vent, bound, more)
		}
	}
}

// P3.12: rooms with at most the bound stay there, hour by hour, in Air; one gram less
// is not enough.
func TestBoundInAir(t *testing.T) {
	r := rand.New(rand.NewSource(9))
	for range 2000 {
		most, vent := r.Intn(5000), 1+r.Intn(1000)
		bound, _ := wash.Bound(most, vent)
		in := make([]api.Span, api.MaxFerment)
		for i := range in {
			in[i] = anySpan(r, 0, most)
		}
		rooms, e := wash.Air(anySpan(r, 0, bound), in, vent)
		if e != api.OK || slices.ContainsFunc(rooms, func(s api.Span) bool { return s.Hi > bound }) {
			t.Fatal(most, vent, bound, rooms, e)
		}
		full, e := wash.Air(one(bound), []api.Span{one(most)}, vent)
		if e != api.OK || full[0].Hi > bound {
			t.Fatal(most, vent, bound, full, e)
		}
		if bound == 0 {
			continue
		}
		little, e := wash.Air(one(bound-1), []api.Span{one(most)}, vent)
		if e != api.OK || little[0].Hi < bound {
			t.Fatal(most, vent, bound, little, e)
		}
	}
}

// checkVent checks what Vent returns.
func checkVent(t *testing.T, most, limit, want int, wantE api.Errno) {
	t.Helper()
	if got, e := wash.Vent(most, limit); got != want || e != wantE {
		t.Fatal(most, limit, got, e, "want", want, wantE)
	}
}

// P3.8: the examples, and the edges.
func TestVent(t *testing.T) {
	for _, x := range []struct{ most, limit, want int }{
		{100, 400, 250}, {100, 100, 1000}, {100, 101, 991}, {100, 200, 500}, {100, 399, 251}, {100, 401, 250},
		{100, 99999, 2}, {100, 100000, 1}, {100, api.MaxGas, 1}, {1, 1, 1000}, {1, 1000, 1}, {1, 999, 2},
		{0, 0, 0}, {0, 5, 0}, {0, api.MaxGas, 0}, {1, api.MaxGas, 1}, {api.MaxGas, api.MaxGas, 1000},
		{api.MaxGas / 2, api.MaxGas, 500}, {api.MaxGas - 1, api.MaxGas, 1000},
	} {
		checkVent(t, x.most, x.limit, x.want, api.OK)
	}
	for _, x := range [][2]int{{100, 99}, {1, 0}, {api.MaxGas, api.MaxGas - 1}, {api.MaxGas, 0}} {
		checkVent(t, x[0], x[1], 0, api.ErrLimit)
	}
	for _, n := range []int{-1, minInt, maxInt, api.MaxGas + 1} {
		checkVent(t, n, 5, 0, api.ErrRange)
		checkVent(t, n, 0, 0, api.ErrRange)
		checkVent(t, 5, n, 0, api.ErrRange)
		checkVent(t, 0, n, 0, api.ErrRange)
	}
}

// P3.8 and P3.12: rooms that begin empty never have more than the limit, and do with a
// thousandth less.
func TestVentForEver(t *testing.T) {
	r := rand.New(rand.NewSource(10))
	for n := range 3000 {
		most := r.Intn([]int{20, 5000, api.MaxGas}[n%3] + 1)
		limit := min(most+r.Intn(1+10*most), api.MaxGas)
		vent, e := wash.Vent(most, limit)
		if e != api.OK || highest(most, vent) > limit {
			t.Fatal(most, limit, vent, e)
		}
		if vent == 0 {
			continue
		}
		bound, e := wash.Bound(most, vent-1)
		if e == api.OK && (bound+most <= limit || highest(most, vent-1) <= limit) {
			t.Fatal(most, limit, vent, bound)
		}
	}
}

// highest returns how much gas there ever is at most in a room that was empty at first,
// before the gas of an hour leaves.
func highest(most, vent int) int {
	gas := 0
	for {
		later := behind(gas, most, vent)
		if later == gas {
			return gas + most
		}
		gas = later
	}
}
