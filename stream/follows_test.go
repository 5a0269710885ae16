package stream_test

import (
	"math/big"
	"math/rand"
	"reflect"
	"slices"
	"sync"
	"testing"

	"wormtub/api"
	"wormtub/stream"
)

// truth is what is true of a stream: how much flows, and how much heat is in it; and how
// much heat came into it, and went out of it, in all. Its warmth need not be whole.
type truth struct{ flow, heat, came, went *big.Rat }

// warm returns how warm the stream is.
func (x *truth) warm() *big.Rat { return over(x.heat, x.flow) }

// gain brings heat into the stream, and lose takes some out of it.
func (x *truth) gain(heat *big.Rat) { x.heat, x.came = plus(x.heat, heat), plus(x.came, heat) }

func (x *truth) lose(heat *big.Rat) { x.heat, x.went = less(x.heat, heat), plus(x.went, heat) }

// pass lets a point happen, with true numbers in its spans.
func (x *truth) pass(r *rand.Rand, p api.Point) {
	switch p.Kind {
	case api.Join:
		more := anyWhole(r, p.Flow)
		x.gain(times(more, anyIn(r, p.Warm)))
		x.flow = plus(x.flow, more)
	case api.Draw:
		off := anyWhole(r, p.Flow)
		x.lose(times(off, x.warm()))
		x.flow = less(x.flow, off)
	case api.Add:
		x.gain(anyIn(r, p.Heat))
	case api.Air:
		difference := less(x.warm(), anyIn(r, p.Warm))
		x.lose(times(x.flow, over(times(anyIn(r, p.Share), difference), rat(api.Whole))))
	}
}

// checkDone checks that enough of what was tried showed something.
func checkDone(t *testing.T, done int) {
	t.Helper()
	if done < 1000 {
		t.Error("too little of what was tried shows anything", done)
	}
}

// P5.6: whatever is true, flow and warmth are in the spans, and heat is conserved; where
// Warm names nothing the stream is below its degrees, and where it is surely too warm it
// is above them.
func TestTruthIsInside(t *testing.T) {
	r := rand.New(rand.NewSource(8))
	done := 0
	for n := range 4000 {
		most := mosts()[n%4]
		w, l := anyWater(r, most), anyPoints(r, 1+r.Intn(6), most)
		limit := r.Intn(50000)
		all, _, e := stream.Flow(w, l)
		surely, perhaps, _ := stream.Warm(w, l, limit)
		if e != api.OK {
			continue
		}
		x := truth{flow: anyWhole(r, w.Flow), heat: rat(0), came: rat(0), went: rat(0)}
		x.gain(times(x.flow, anyIn(r, w.Warm)))
		for i, p := range l {
			x.pass(r, p)
			above := x.warm().Cmp(rat(limit)) > 0
			if !holds(all[i].Flow, x.flow) || !holds(all[i].Warm, x.warm()) || less(x.came, x.went).Cmp(x.heat) != 0 ||
				above && !slices.Contains(perhaps, i) || !above && slices.Contains(surely, i) {
				t.Fatal(w, l, limit, i, all[i], x, surely, perhaps)
			}
			done++
		}
	}
	checkDone(t, done)
}

// P5.6: with the heat that Room tells the true stream stays below its degrees.
func TestRoomIsSafe(t *testing.T) {
	r := rand.New(rand.NewSource(9))
	done := 0
	for n := range 4000 {
		most := mosts()[n%4]
		w, l := anyWater(r, most), anyPoints(r, 1+r.Intn(4), most)
		at, limit := r.Intn(len(l)+1), 20000+r.Intn(80000)
		heat, e := stream.Room(w, l, at, limit)
		if e != api.OK {
			continue
		}
		x := truth{flow: anyWhole(r, w.Flow), heat: rat(0), came: rat(0), went: rat(0)}
		x.gain(times(x.flow, anyIn(r, w.Warm)))
		for i, p := range slices.Insert(slices.Clone(l), at, add(span(0, heat))) {
			x.pass(r, p)
			if i >= at && x.warm().Cmp(rat(limit)) > 0 {
				t.Fatal(w, l, at, limit, heat, i, x)
			}
			done++
		}
	}
	checkDone(t, done)
}

// better returns points of which more is known.
func better(r *rand.Rand, l []api.Point) []api.Point {
	l = slices.Clone(l)
	for i, p := range l {
		l[i] = api.Point{
			Kind: p.Kind, Flow: narrower(r, p.Flow), Warm: narrower(r, p.Warm),
			Heat: narrower(r, p.Heat), Share: narrower(r, p.Share),
		}
	}
	return l
}

// P5.6: with less that is open no span is wider, and not less heat can be added.
func TestNarrower(t *testing.T) {
	r := rand.New(rand.NewSource(10))
	done := 0
	for n := range 4000 {
		most := mosts()[n%4]
		w, l := anyWater(r, most), anyPoints(r, r.Intn(7), most)
		known, points := water(narrower(r, w.Flow), narrower(r, w.Warm)), better(r, l)
		all, _, e := stream.Flow(w, l)
		if e != api.OK {
			continue
		}
		narrow, _, e := stream.Flow(known, points)
		if e != api.OK {
			t.Fatal(w, l, known, points, e)
		}
		for i := range all {
			if !inside(narrow[i].Flow, all[i].Flow) || !inside(narrow[i].Warm, all[i].Warm) {
				t.Fatal(w, l, known, points, i, all[i], narrow[i])
			}
			done++
		}
		at, limit := r.Intn(len(l)+1), r.Intn(api.MaxWarm+1)
		heat, e := stream.Room(w, l, at, limit)
		more, moreE := stream.Room(known, points, at, limit)
		if e == api.OK && (moreE != api.OK || more < heat) {
			t.Fatal(w, l, known, points, at, limit, heat, more, moreE)
		}
	}
	checkDone(t, done)
}

// P5.6: more heat that is added somewhere makes no point less warm.
func TestMoreHeat(t *testing.T) {
	r := rand.New(rand.NewSource(11))
	done := 0
	for n := range 4000 {
		most := mosts()[n%4]
		w, l := anyWater(r, most), anyPoints(r, 1+r.Intn(6), most)
		place := r.Intn(len(l))
		l[place] = anyPoint(r, api.Add, most)
		hot := slices.Clone(l)
		hot[place].Heat = span(l[place].Heat.Lo+r.Intn(most), l[place].Heat.Hi+most+r.Intn(most*100))
		all, _, e := stream.Flow(w, l)
		warmer, _, moreE := stream.Flow(w, hot)
		if e != api.OK || moreE != api.OK {
			continue
		}
		for i := range all {
			if warmer[i].Flow != all[i].Flow || warmer[i].Warm.Lo < all[i].Warm.Lo || warmer[i].Warm.Hi < all[i].Warm.Hi {
				t.Fatal(w, l, hot, i, all[i], warmer[i])
			}
			done++
		}
	}
	checkDone(t, done)
}

// P5.6: more cold water that joins makes no point warmer, if what joins later is not
// colder than the stream.
func TestMoreCold(t *testing.T) {
	r := rand.New(rand.NewSource(12))
	done := 0
	for n := range 6000 {
		most := mosts()[n%4]
		w, l := anyWater(r, most), anyPoints(r, 1+r.Intn(6), most)
		for i, p := range l {
			if p.Kind == api.Join {
				l[i].Warm = one(api.MaxWarm)
			}
		}
		w.Warm.Lo, w.Warm.Hi = w.Warm.Lo+40000, w.Warm.Hi+40000
		little := anyPoint(r, api.Join, most)
		much := little
		lo := little.Flow.Lo + r.Intn(most)
		much.Flow = span(lo, max(lo, little.Flow.Hi+r.Intn(most)))
		all, _, e := stream.Flow(w, append([]api.Point{little}, l...))
		colder, _, moreE := stream.Flow(w, append([]api.Point{much}, l...))
		if e != api.OK || moreE != api.OK {
			continue
		}
		for i := range all {
			if colder[i].Warm.Lo > all[i].Warm.Lo || colder[i].Warm.Hi > all[i].Warm.Hi {
				t.Fatal(w, l, little, much, i, all[i], colder[i])
			}
			done++
		}
	}
	checkDone(t, done)
}

// P5.6: if a heat fits, so does each lesser one, and no greater one than Room tells.
func TestLesserHeat(t *testing.T) {
	r := rand.New(rand.NewSource(13))
	done := 0
	for n := range 3000 {
		most := mosts()[n%4]
		w, l := anyWater(r, most), anyPoints(r, r.Intn(5), most)
		at, limit := r.Intn(len(l)+1), r.Intn(api.MaxWarm+1)
		heat, e := stream.Room(w, l, at, limit)
		if e != api.OK {
			continue
		}
		for _, h := range []int{0, heat, r.Intn(heat + 1), r.Intn(heat + 1)} {
			if !rightFit(w, l, at, limit, h) {
				t.Fatal(w, l, at, limit, heat, h)
			}
			done++
		}
		if heat < api.MaxAdded && rightFit(w, l, at, limit, min(heat+1+r.Intn(heat+1), api.MaxAdded)) {
			t.Fatal(w, l, at, limit, heat)
		}
	}
	checkDone(t, done)
}

// lastEnd returns when the last of some runs ends.
func lastEnd(l []api.Burner, starts []int) int {
	end := 0
	for i, b := range l {
		end = max(end, starts[i]+b.Hours)
	}
	return end
}

// isPlan tells whether starts are a plan.
func isPlan(room []int, l []api.Burner, starts []int) bool {
	free := slices.Clone(room)
	for i, b := range l {
		if starts[i] < b.Ready || starts[i] > b.Due-b.Hours {
			return false
		}
		for hour := range b.Hours {
			free[starts[i]+hour] -= b.Heat
		}
	}
	return len(starts) == len(l) && (len(free) == 0 || slices.Min(free) >= 0)
}

// P5.6: what is told is a plan; with more room one ends no later.
func TestMoreRoom(t *testing.T) {
	r := rand.New(rand.NewSource(14))
	done := 0
	for n := range 1500 {
		count := []int{12, 40, api.MaxSlots}[n%3]
		room := anyRoom(r, count, 30)
		var l []api.Burner
		for range 1 + r.Intn(api.MaxRuns) {
			l = append(l, anyRun(r, count, count, 15))
			l[len(l)-1].Heat /= 1 + r.Intn(3)
		}
		starts, e := stream.Runs(room, l)
		if e != api.OK {
			continue
		}
		more := slices.Clone(room)
		for i := range more {
			more[i] += r.Intn(8) * r.Intn(2)
		}
		earlier, moreE := stream.Runs(more, l)
		if !isPlan(room, l, starts) || moreE != api.OK || !isPlan(more, l, earlier) || lastEnd(l, earlier) > lastEnd(l, starts) {
			t.Fatal(room, more, l, starts, earlier, moreE)
		}
		done++
	}
	if done < 400 {
		t.Error("too little of what was tried shows anything", done)
	}
}

// results returns what each function returns for the examples.
func results() []any {
	w, l := exampleWater(), examplePoints()
	room, runs := []int{10, 10, 5, 10}, []api.Burner{run(0, 4, 2, 6), run(0, 4, 1, 5)}
	all, index, e := stream.Flow(w, l)
	surely, perhaps, warmE := stream.Warm(w, l, 8500)
	heat, roomE := stream.Room(w, l, 2, 12000)
	starts, runsE := stream.Runs(room, runs)
	kept := w == exampleWater() && slices.Equal(l, examplePoints()) && slices.Equal(room, []int{10, 10, 5, 10}) &&
		slices.Equal(runs, []api.Burner{run(0, 4, 2, 6), run(0, 4, 1, 5)})
	return []any{all, index, e, surely, perhaps, warmE, heat, roomE, starts, runsE, kept}
}

// P5.5: arguments are only read, also behind their ends, and results are new memory.
func TestMemory(t *testing.T) {
	want := results()
	if want[len(want)-1] != true {
		t.Error("an argument was changed")
	}
	again := results()
	clear(again[0].([]api.Water))
	surely, perhaps := again[3].([]int), again[4].([]int)
	clear(surely[:cap(surely)])
	if !slices.Equal(perhaps, []int{0, 1, 2, 3}) {
		t.Error("two results share memory", perhaps)
	}
	clear(perhaps)
	clear(again[8].([]int))
	if !reflect.DeepEqual(results(), want) {
		t.Error("a result is kept", results(), want)
	}
	l := append(examplePoints(), api.Point{Kind: 99})
	runs := []api.Burner{run(0, 4, 2, 6), run(0, 4, 1, 5), run(9, 9, 9, 9)}
	room := []int{10, 10, 5, 10, 77, 78}
	stream.Flow(exampleWater(), l[:4])
	stream.Warm(exampleWater(), l[:4], 5)
	for at := range 5 {
		stream.Room(exampleWater(), l[:4], at, 50000)
	}
	stream.Runs(room[:4], runs[:2])
	if l[4].Kind != 99 || runs[2] != run(9, 9, 9, 9) || !slices.Equal(room, []int{10, 10, 5, 10, 77, 78}) {
		t.Error("something behind an argument was changed", l, runs, room)
	}
}

// P10: calls at the same time do not disturb each other, and have the same results;
// what ended with an error leaves nothing behind.
func TestAgain(t *testing.T) {
	want := results()
	var wait sync.WaitGroup
	for range 8 {
		wait.Go(func() {
			for range 100 {
				none, _, short := stream.Flow(exampleWater(), []api.Point{add(one(5)), draw(one(1000))})
				if got := results(); !reflect.DeepEqual(got, want) || len(none) != 0 || short != api.ErrShort {
					t.Error(got, none, short)
				}
			}
		})
	}
	wait.Wait()
}
