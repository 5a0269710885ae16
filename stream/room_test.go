package stream_test

import (
	"math/rand"
	"slices"
	"testing"

	"wormtub/api"
	"wormtub/stream"
)

// checkRoom checks what Room returns.
func checkRoom(t *testing.T, w api.Water, l []api.Point, at, limit, want int, wantE api.Errno) {
	t.Helper()
	if got, e := stream.Room(w, l, at, limit); got != want || e != wantE {
		t.Fatal(w, l, at, limit, got, e, "want", want, wantE)
	}
}

// P5.3: the example, and what the limit allows.
func TestRoom(t *testing.T) {
	w, l := exampleWater(), examplePoints()
	checkRoom(t, w, l[:1], 1, 11000, 800000, api.OK)
	checkRoom(t, w, l[:1], 0, 11000, 800000, api.OK)
	checkRoom(t, w, l[:1], 1, 10200, 0, api.OK)
	checkRoom(t, w, l[:1], 1, 10199, 0, api.ErrRefuse)
	checkRoom(t, w, l[:1], 1, 10201, 1000, api.OK)
	checkRoom(t, w, nil, 0, 9000, 0, api.OK)
	checkRoom(t, w, nil, 0, 8999, 0, api.ErrRefuse)
	checkRoom(t, w, nil, 0, api.MaxWarm, 91000*1000, api.OK)
	// What flows most, and is as cold as can be, takes all the heat that there can be.
	checkRoom(t, water(one(api.MaxFlow), one(0)), nil, 0, 1024, api.MaxAdded, api.OK)
	checkRoom(t, water(one(api.MaxFlow), one(0)), nil, 0, 1023, 1023<<30, api.OK)
	checkRoom(t, water(one(api.MaxFlow), one(0)), nil, 0, api.MaxWarm, api.MaxAdded, api.OK)
	checkRoom(t, water(one(1), one(0)), nil, 0, api.MaxWarm, api.MaxWarm, api.OK)
	checkRoom(t, water(span(1, api.MaxFlow), one(7)), nil, 0, 9, 2, api.OK)
	// Rounded up, less than a thousandth is one.
	checkRoom(t, water(one(3), one(5)), []api.Point{add(one(1))}, 1, 7, 3, api.OK)
	checkRoom(t, water(one(3), one(5)), []api.Point{add(one(1))}, 0, 7, 3, api.OK)
}

// P5.3: the point counts, and those behind it, but not those ahead of it.
func TestRoomWhere(t *testing.T) {
	w := water(one(100), one(1000))
	hotThenCold := []api.Point{add(one(900000)), join(one(900), one(0))} // 10000, then 1000
	checkRoom(t, w, hotThenCold, 2, 1500, 500000, api.OK)
	checkRoom(t, w, hotThenCold, 2, 999, 0, api.ErrRefuse)
	checkRoom(t, w, hotThenCold, 1, 1500, 0, api.ErrRefuse)
	checkRoom(t, w, hotThenCold, 1, 10000, 0, api.OK)
	checkRoom(t, w, hotThenCold, 1, 10500, 50000, api.OK)
	checkRoom(t, w, hotThenCold, 0, 9999, 0, api.ErrRefuse)
	checkRoom(t, w, hotThenCold, 0, 10500, 50000, api.OK)
	coldThenHot := []api.Point{join(one(900), one(0)), add(one(9000000))} // 100, then 9100
	checkRoom(t, w, coldThenHot, 1, 9200, 100000, api.OK)
	checkRoom(t, w, coldThenHot, 0, 9200, 100000, api.OK)
	checkRoom(t, w, coldThenHot, 0, 20000, 1900000, api.OK) // the point itself is the warmest
	checkRoom(t, w, coldThenHot, 2, 9099, 0, api.ErrRefuse)
	checkRoom(t, w, coldThenHot, 0, 9099, 0, api.ErrRefuse)
	// Heat that is drawn off, or taken by the air, is not in the stream any more.
	checkRoom(t, w, []api.Point{draw(one(50)), add(one(50000))}, 0, 3000, 100000, api.OK)
	checkRoom(t, w, []api.Point{draw(one(50)), add(one(50000))}, 1, 3000, 50000, api.OK)
	checkRoom(t, w, []api.Point{air(one(0), one(5000)), add(one(250000))}, 0, 3400, 80000, api.OK)
	// Air that is too warm cannot be helped.
	checkRoom(t, w, []api.Point{air(one(9000), one(5000))}, 0, 4999, 0, api.ErrRefuse)
	checkRoom(t, w, []api.Point{air(one(9000), one(5000))}, 1, 5000, 0, api.OK)
}

// P5.3: no point can be too much, also with the greatest limit, and also the heat that
// would be beyond all numbers of the stream.
func TestRoomTooMuch(t *testing.T) {
	thin := water(one(1), one(0))
	flood := join(one(api.MaxFlow-1), one(api.MaxWarm))
	checkRoom(t, thin, []api.Point{flood}, 0, api.MaxWarm, api.MaxWarm, api.OK)
	checkRoom(t, thin, []api.Point{flood, add(one(1))}, 0, api.MaxWarm, 0, api.ErrLimit)
	checkRoom(t, thin, []api.Point{add(one(api.MaxWarm)), flood}, 0, api.MaxWarm, 0, api.OK)
	checkRoom(t, thin, []api.Point{air(one(0), one(10000)), add(one(api.MaxWarm))}, 0, api.MaxWarm, api.MaxWarm, api.OK)
	full := append(idle(api.MaxPoints-1), add(one(20000)))
	for _, at := range []int{0, 1, api.MaxPoints - 1, api.MaxPoints} {
		checkRoom(t, thin, full, at, 30000, 10000, api.OK)
		checkRoom(t, thin, full, at, 19999, 0, api.ErrRefuse)
	}
}

// P5.3: water that is not valid, then limit and place, then the errors of Flow.
func TestRoomErrors(t *testing.T) {
	w := exampleWater()
	lists := [][]api.Point{
		nil, examplePoints(), idle(api.MaxPoints + 1), badPoints()[:1], {draw(one(1000))}, {add(one(0)), add(one(api.MaxAdded))},
	}
	for _, l := range lists {
		places := append(badNumbers(0, len(l)), 0, len(l))
		for _, bad := range badWaters() {
			for _, at := range places {
				checkRoom(t, bad, l, at, 11000, 0, api.ErrArg)
				checkRoom(t, bad, l, at, -1, 0, api.ErrArg)
			}
		}
		for _, at := range badNumbers(0, len(l)) {
			checkRoom(t, w, l, at, 11000, 0, api.ErrRange)
			checkRoom(t, w, l, at, 0, 0, api.ErrRange)
		}
		for _, limit := range badNumbers(0, api.MaxWarm) {
			for _, at := range places {
				checkRoom(t, w, l, at, limit, 0, api.ErrRange)
			}
		}
	}
	for _, limit := range []int{0, 11000, api.MaxWarm} {
		checkRoom(t, w, lists[2], 0, limit, 0, api.ErrLong)
		checkRoom(t, w, lists[2], api.MaxPoints+1, limit, 0, api.ErrLong)
		for at := range 2 {
			checkRoom(t, w, lists[3], at, limit, 0, api.ErrArg)
			checkRoom(t, w, lists[4], at, limit, 0, api.ErrShort)
			checkRoom(t, w, lists[5], at, limit, 0, api.ErrLimit)
		}
	}
	for _, p := range badPoints() {
		checkRoom(t, w, append(examplePoints(), p), 0, 0, 0, api.ErrArg)
	}
}

// rightFit tells whether a heat fits.
func rightFit(w api.Water, l []api.Point, at, limit, heat int) bool {
	all, _, e := rightFlow(w, slices.Insert(slices.Clone(l), at, add(one(heat))))
	for i, x := range all {
		if i >= at && x.Warm.Hi > limit {
			return false
		}
	}
	return e == api.OK
}

// P5.3 and P5.6: streams of all kinds. The greatest heat that fits is told, and each
// lesser one fits.
func TestRoomAny(t *testing.T) {
	r := rand.New(rand.NewSource(3))
	seen := map[api.Errno]int{}
	for n := range 4000 {
		most := mosts()[n%4]
		w, l := anyWater(r, most), anyPoints(r, r.Intn(5), most)
		at, limit := r.Intn(len(l)+1), r.Intn(api.MaxWarm+1)
		got, e := stream.Room(w, l, at, limit)
		seen[e]++
		if _, _, wrong := rightFlow(w, l); wrong != api.OK {
			checkRoom(t, w, l, at, limit, 0, wrong)
			continue
		}
		fits := func(heat int) bool { return rightFit(w, l, at, limit, heat) }
		if e == api.ErrRefuse {
			if got != 0 || fits(0) {
				t.Fatal(w, l, at, limit, got)
			}
			continue
		}
		if e != api.OK || !fits(got) || got < api.MaxAdded && fits(got+1) || got > api.MaxAdded || !fits(r.Intn(got+1)) {
			t.Fatal(w, l, at, limit, got, e)
		}
	}
	if seen[api.OK] < 1000 || seen[api.ErrRefuse] < 300 {
		t.Error("the streams do not show what they are to show", seen)
	}
}

// P5.3: of small streams all heats are tried.
func TestRoomSmall(t *testing.T) {
	r := rand.New(rand.NewSource(4))
	for range 150 {
		w, l := water(anySpan(r, 1, 4), anySpan(r, 0, 20)), []api.Point(nil)
		for range r.Intn(4) {
			l = append(l, []api.Point{
				join(anySpan(r, 1, 4), anySpan(r, 0, 20)), draw(one(0)), add(anySpan(r, 0, 20)),
				air(anySpan(r, 0, 20), anySpan(r, 0, 10000)),
			}[r.Intn(4)])
		}
		at, limit := r.Intn(len(l)+1), r.Intn(40)
		want, wantE := 0, api.ErrRefuse
		for heat := range 200 {
			if rightFit(w, l, at, limit, heat) {
				want, wantE = heat, api.OK
			}
		}
		if want < 199 {
			checkRoom(t, w, l, at, limit, want, wantE)
		}
	}
}
