package stream_test

import (
	"math/rand"
	"slices"
	"testing"

	"wormtub/api"
	"wormtub/stream"
)

// checkWarm checks what Warm returns.
func checkWarm(t *testing.T, w api.Water, l []api.Point, limit int, surely, perhaps []int, wantE api.Errno) {
	t.Helper()
	a, b, e := stream.Warm(w, l, limit)
	if !slices.Equal(a, surely) || !slices.Equal(b, perhaps) || e != wantE {
		t.Fatal(w, l, limit, a, b, e, "want", surely, perhaps, wantE)
	}
}

// P5.2: the examples, and the limits at which a point comes or goes.
func TestWarm(t *testing.T) {
	w, l := exampleWater(), examplePoints()
	all := []int{0, 1, 2, 3}
	for _, x := range []struct {
		limit           int
		surely, perhaps []int
	}{
		{10000, nil, all}, {8500, []int{0, 1, 2}, all}, {0, all, all}, {8295, all, all}, {8296, []int{0, 1, 2}, all},
		{8832, []int{0, 1, 2}, all}, {8833, []int{2}, all}, {9119, []int{2}, all}, {9120, nil, all}, {10199, nil, all},
		{10200, nil, []int{2, 3}}, {10920, nil, []int{2, 3}}, {10921, nil, []int{2}}, {11466, nil, []int{2}}, {11467, nil, nil},
		{api.MaxWarm, nil, nil},
	} {
		checkWarm(t, w, l, x.limit, x.surely, x.perhaps, api.OK)
	}
	checkWarm(t, w, nil, 0, nil, nil, api.OK) // ahead of all points nothing is told
	checkWarm(t, water(one(1), one(api.MaxWarm)), idle(3), api.MaxWarm-1, []int{0, 1, 2}, []int{0, 1, 2}, api.OK)
}

// P5.2: water that is not valid, then the limit, then the errors of Flow.
func TestWarmErrors(t *testing.T) {
	w := exampleWater()
	limits := append(badNumbers(0, api.MaxWarm), 0, 5, api.MaxWarm)
	lists := [][]api.Point{
		nil, examplePoints(), idle(api.MaxPoints + 1), badPoints()[:1], {draw(one(1000))}, {add(one(0)), add(one(api.MaxAdded))},
	}
	for _, l := range lists {
		for _, limit := range limits {
			for _, bad := range badWaters() {
				checkWarm(t, bad, l, limit, nil, nil, api.ErrArg)
			}
		}
		for _, limit := range badNumbers(0, api.MaxWarm) {
			checkWarm(t, w, l, limit, nil, nil, api.ErrRange)
		}
	}
	for _, limit := range []int{0, 5, api.MaxWarm} {
		checkWarm(t, w, lists[2], limit, nil, nil, api.ErrLong)
		checkWarm(t, w, lists[3], limit, nil, nil, api.ErrArg)
		checkWarm(t, w, lists[4], limit, nil, nil, api.ErrShort)
		checkWarm(t, w, lists[5], limit, nil, nil, api.ErrLimit)
	}
	for _, p := range badPoints() {
		checkWarm(t, w, append(examplePoints(), p), 5, nil, nil, api.ErrArg)
	}
}

// P5.2: streams of all kinds.
func TestWarmAny(t *testing.T) {
	r := rand.New(rand.NewSource(2))
	sure, only, none := 0, 0, 0
	for n := range 3000 {
		most := mosts()[n%4]
		w, l := anyWater(r, most), anyPoints(r, r.Intn(7), most)
		limit := r.Intn(60000)
		all, _, e := rightFlow(w, l)
		var surely, perhaps []int
		for i, x := range all {
			if x.Warm.Lo > limit {
				surely = append(surely, i)
			}
			if x.Warm.Hi > limit {
				perhaps = append(perhaps, i)
			}
		}
		checkWarm(t, w, l, limit, surely, perhaps, e)
		sure, only, none = sure+len(surely), only+len(perhaps)-len(surely), none+len(all)-len(perhaps)
	}
	if sure < 500 || only < 500 || none < 500 {
		t.Error("the streams do not show what they are to show", sure, only, none)
	}
}
