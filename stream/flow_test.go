package stream_test

import (
	"math/rand"
	"slices"
	"testing"

	"wormtub/api"
	"wormtub/stream"
)

// checkFlow checks what Flow returns.
func checkFlow(t *testing.T, w api.Water, l []api.Point, want []api.Water, wantIndex int, wantE api.Errno) {
	t.Helper()
	if got, index, e := stream.Flow(w, l); !slices.Equal(got, want) || index != wantIndex || e != wantE {
		t.Fatal(w, l, got, index, e, "want", want, wantIndex, wantE)
	}
}

// checkPoint checks what is known behind a point.
func checkPoint(t *testing.T, w api.Water, p api.Point, flow, warm api.Span) {
	t.Helper()
	checkFlow(t, w, []api.Point{p}, []api.Water{water(flow, warm)}, 1, api.OK)
}

// P5.1: the examples, one after the other.
func TestFlow(t *testing.T) {
	l, behind := examplePoints(), exampleBehind()
	for n := range len(l) + 1 {
		checkFlow(t, exampleWater(), l[:n], behind[:n], n, api.OK)
	}
	checkFlow(t, exampleWater(), nil, nil, 0, api.OK)
	checkFlow(t, exampleWater(), []api.Point{}, nil, 0, api.OK)
}

// P5.1: water that joins; what is rounded, and which flows make it least and most warm.
func TestFlowJoin(t *testing.T) {
	w := water(one(2), one(10))
	checkPoint(t, w, join(one(1), one(10)), one(3), one(10))
	checkPoint(t, w, join(one(1), one(11)), one(3), span(10, 11))
	checkPoint(t, w, join(one(1), one(0)), one(3), span(6, 7))
	checkPoint(t, w, join(one(2), one(20)), one(4), one(15))
	w = water(span(100, 300), span(1000, 2000))
	checkPoint(t, w, join(span(100, 300), one(5000)), span(200, 600), span(2000, 4250)) // warmer
	checkPoint(t, w, join(span(100, 300), one(0)), span(200, 600), span(250, 1500))     // colder
	checkPoint(t, w, join(span(100, 300), one(1500)), span(200, 600), span(1125, 1875)) // between
	checkPoint(t, w, join(span(100, 300), span(0, 5000)), span(200, 600), span(250, 4250))
	checkPoint(t, w, join(span(100, 300), span(1000, 2000)), span(200, 600), span(1000, 2000))
	full := water(one(api.MaxFlow-1), one(api.MaxWarm))
	checkPoint(t, full, join(one(1), one(api.MaxWarm)), one(api.MaxFlow), one(api.MaxWarm))
	checkPoint(t, full, join(one(1), one(0)), one(api.MaxFlow), span(api.MaxWarm-1, api.MaxWarm))
	half := api.MaxFlow / 2
	checkPoint(t, water(one(half), one(api.MaxWarm)), join(one(half), one(0)), one(api.MaxFlow), one(api.MaxWarm/2))
	checkPoint(t, water(span(1, half), one(0)), join(span(1, half), one(api.MaxWarm)), span(2, api.MaxFlow), span(0, api.MaxWarm))
}

// P5.1: water that is drawn off leaves the rest as warm as it is.
func TestFlowDraw(t *testing.T) {
	w := water(span(1000, 1200), span(8000, 9000))
	for _, x := range []struct{ flow, want api.Span }{
		{one(0), span(1000, 1200)}, {one(999), span(1, 201)}, {span(0, 999), span(1, 1200)}, {span(300, 500), span(500, 900)},
	} {
		checkPoint(t, w, draw(x.flow), x.want, w.Warm)
	}
	checkPoint(t, water(one(api.MaxFlow), one(5)), draw(one(api.MaxFlow-1)), one(1), one(5))
}

// P5.1: heat that is added; it warms least what flows most.
func TestFlowAdd(t *testing.T) {
	checkPoint(t, water(one(3), one(5)), add(one(7)), one(3), span(7, 8))
	checkPoint(t, water(one(3), one(5)), add(one(6)), one(3), one(7))
	checkPoint(t, water(one(3), one(5)), add(one(0)), one(3), one(5))
	checkPoint(t, water(span(3, 4), span(5, 6)), add(span(7, 10)), span(3, 4), span(6, 10))
	checkPoint(t, water(one(1), one(0)), add(one(api.MaxWarm)), one(1), one(api.MaxWarm))
	checkPoint(t, water(one(api.MaxFlow), one(api.MaxWarm-1024)), add(one(api.MaxAdded)), one(api.MaxFlow), one(api.MaxWarm))
	checkPoint(t, water(span(1024, 2048), one(0)), add(one(api.MaxWarm<<10)), span(1024, 2048), span(api.MaxWarm/2, api.MaxWarm))
}

// P5.1: air takes a share of the difference, whichever is warmer.
func TestFlowAir(t *testing.T) {
	w := water(span(3, 4), one(100))
	checkPoint(t, w, air(one(0), one(5000)), w.Flow, one(50))
	checkPoint(t, w, air(one(200), one(5000)), w.Flow, one(150))
	checkPoint(t, w, air(one(0), one(0)), w.Flow, one(100))
	checkPoint(t, w, air(one(7), one(10000)), w.Flow, one(7))
	checkPoint(t, w, air(one(0), one(1)), w.Flow, span(99, 100))
	checkPoint(t, w, air(one(101), one(1)), w.Flow, span(100, 101))
	checkPoint(t, w, air(one(0), span(1000, 2000)), w.Flow, span(80, 90))
	checkPoint(t, w, air(one(200), span(1000, 2000)), w.Flow, span(110, 120))
	checkPoint(t, w, air(span(0, 200), span(1000, 2000)), w.Flow, span(80, 120))
	checkPoint(t, w, air(one(3), span(0, 10000)), w.Flow, span(3, 100))
	w.Warm = span(50, 100)
	checkPoint(t, w, air(one(80), span(2500, 5000)), w.Flow, span(57, 95)) // 57.5
	checkPoint(t, w, air(span(0, api.MaxWarm), span(0, 10000)), w.Flow, span(0, api.MaxWarm))
}

// P5.1 and R8: what a kind does not use is not looked at.
func TestFlowUnused(t *testing.T) {
	for i, p := range examplePoints() {
		for _, s := range append(badSpans(0, 100), one(77)) {
			full := api.Point{Kind: p.Kind, Flow: s, Warm: s, Heat: s, Share: s}
			switch p.Kind {
			case api.Join:
				full.Flow, full.Warm = p.Flow, p.Warm
			case api.Draw:
				full.Flow = p.Flow
			case api.Add:
				full.Heat = p.Heat
			case api.Air:
				full.Warm, full.Share = p.Warm, p.Share
			}
			l := examplePoints()
			l[i] = full
			checkFlow(t, exampleWater(), l, exampleBehind(), len(l), api.OK)
		}
	}
}

// P5.1: water that is not valid, ahead of too many points, ahead of all else.
func TestFlowFirstErrors(t *testing.T) {
	w := exampleWater()
	for _, bad := range badWaters() {
		for _, l := range [][]api.Point{nil, examplePoints(), badPoints()[:1], idle(api.MaxPoints + 1)} {
			checkFlow(t, bad, l, nil, 0, api.ErrArg)
		}
	}
	for _, p := range append(badPoints(), add(one(0)), draw(one(api.MaxFlow)), add(one(api.MaxAdded))) {
		l := append([]api.Point{p}, idle(api.MaxPoints)...)
		checkFlow(t, w, l, nil, 0, api.ErrLong)
	}
	checkFlow(t, w, slices.Repeat(idle(1), 1000), nil, 0, api.ErrLong)
	same := slices.Repeat([]api.Water{w}, api.MaxPoints)
	checkFlow(t, w, idle(api.MaxPoints), same, api.MaxPoints, api.OK)
	checkFlow(t, w, idle(api.MaxPoints-1), same[1:], api.MaxPoints-1, api.OK)
}

// P5.1: the first point with an error ends all.
func TestFlowPointErrors(t *testing.T) {
	w := exampleWater()
	type point struct {
		p api.Point
		e api.Errno
	}
	bad := []point{
		{draw(one(1000)), api.ErrShort}, {draw(span(0, 1000)), api.ErrShort}, {draw(one(1200)), api.ErrShort},
		{draw(one(api.MaxFlow)), api.ErrShort}, {join(one(api.MaxFlow), one(0)), api.ErrLimit},
		{join(one(api.MaxFlow-1199), one(0)), api.ErrLimit}, {join(span(1, api.MaxFlow-1199), one(0)), api.ErrLimit},
		{add(one(91000*1000 + 1)), api.ErrLimit}, {add(span(0, 91000*1000+1)), api.ErrLimit}, {add(one(api.MaxAdded)), api.ErrLimit},
	}
	for _, p := range badPoints() {
		bad = append(bad, point{p, api.ErrArg})
	}
	for _, x := range bad {
		for _, n := range []int{0, 1, 5, api.MaxPoints - 1} {
			checkFlow(t, w, append(idle(n), x.p), nil, n, x.e)
		}
		for _, later := range bad {
			checkFlow(t, w, []api.Point{add(one(0)), x.p, later.p}, nil, 1, x.e)
		}
	}
	checkPoint(t, w, draw(one(999)), span(1, 201), w.Warm)
	checkPoint(t, w, join(one(api.MaxFlow-1200), w.Warm), span(api.MaxFlow-200, api.MaxFlow), w.Warm)
	checkPoint(t, w, add(one(91000*1000)), w.Flow, span(83833, 100000))
	// Behind a point the stream is another one.
	checkFlow(t, w, []api.Point{draw(one(500)), draw(one(500))}, nil, 1, api.ErrShort)
	checkFlow(t, w, []api.Point{draw(one(999)), add(one(91001))}, nil, 1, api.ErrLimit)
	checkFlow(t, water(one(api.MaxFlow), one(0)), []api.Point{draw(one(0)), join(one(1), one(0))}, nil, 1, api.ErrLimit)
}

// P5.1: streams of all kinds.
func TestFlowAny(t *testing.T) {
	r := rand.New(rand.NewSource(1))
	seen := map[api.Errno]int{}
	for n := range 6000 {
		most := mosts()[n%4]
		w, l := anyWater(r, most), anyPoints(r, r.Intn(7), most)
		if n%10 == 0 && len(l) > 0 {
			l[r.Intn(len(l))] = badPoints()[r.Intn(len(badPoints()))]
		}
		want, index, e := rightFlow(w, l)
		checkFlow(t, w, l, want, index, e)
		seen[e]++
	}
	if seen[api.OK] < 2000 || seen[api.ErrArg] < 100 || seen[api.ErrShort] < 100 || seen[api.ErrLimit] < 100 {
		t.Error("the streams do not show what they are to show", seen)
	}
}
