package stream_test

import (
	"math/rand"
	"slices"
	"testing"

	"wormtub/api"
	"wormtub/stream"
)

// run returns a run.
func run(ready, due, hours, heat int) api.Burner {
	return api.Burner{Ready: ready, Due: due, Hours: hours, Heat: heat}
}

// checkRuns checks what Runs returns.
func checkRuns(t *testing.T, room []int, l []api.Burner, want []int, wantE api.Errno) {
	t.Helper()
	if got, e := stream.Runs(room, l); !slices.Equal(got, want) || e != wantE {
		t.Fatal(room, l, got, e, "want", want, wantE)
	}
}

// flat returns so many hours with the same room.
func flat(count, room int) []int { return slices.Repeat([]int{room}, count) }

// P5.4: the example, and plans that can be seen.
func TestRuns(t *testing.T) {
	checkRuns(t, []int{10, 10, 5, 10}, []api.Burner{run(0, 4, 2, 6), run(0, 4, 1, 5)}, []int{0, 2}, api.OK)
	checkRuns(t, nil, nil, nil, api.OK)
	checkRuns(t, flat(5, 0), []api.Burner{}, nil, api.OK)
	checkRuns(t, flat(1, 0), []api.Burner{run(0, 1, 1, 0)}, []int{0}, api.OK)
	checkRuns(t, flat(1, 1), []api.Burner{run(0, 1, 1, 1)}, []int{0}, api.OK)
	checkRuns(t, flat(1, 0), []api.Burner{run(0, 1, 1, 1)}, nil, api.ErrNone)
	checkRuns(t, flat(9, 9), []api.Burner{run(3, 9, 2, 5)}, []int{3}, api.OK)
	checkRuns(t, flat(9, 9), []api.Burner{run(0, 9, 9, 5), run(0, 9, 9, 4)}, []int{0, 0}, api.OK)
	checkRuns(t, flat(9, 9), []api.Burner{run(0, 9, 9, 5), run(0, 9, 9, 5)}, nil, api.ErrNone)
	checkRuns(t, flat(4, 9), []api.Burner{run(0, 4, 2, 5), run(0, 4, 2, 5)}, []int{0, 2}, api.OK)
	checkRuns(t, flat(4, 9), []api.Burner{run(0, 4, 2, 5), run(0, 2, 2, 5)}, []int{2, 0}, api.OK)
	checkRuns(t, flat(4, 9), []api.Burner{run(0, 3, 2, 5), run(0, 3, 2, 5)}, nil, api.ErrNone)
	checkRuns(t, []int{0, 9, 0, 9, 9}, []api.Burner{run(0, 5, 2, 1)}, []int{3}, api.OK)
	checkRuns(t, []int{0, 9, 0, 9, 9}, []api.Burner{run(0, 4, 2, 1)}, nil, api.ErrNone)
	checkRuns(t, []int{0, 9, 0, 9, 9}, []api.Burner{run(0, 4, 4, 0)}, []int{0}, api.OK)
	// Each hour counts, also that in the midst of a run and the last one.
	checkRuns(t, []int{9, 9, 8, 9, 9, 9}, []api.Burner{run(0, 6, 3, 9)}, []int{3}, api.OK)
	checkRuns(t, []int{8, 9, 9, 8, 9, 9, 9}, []api.Burner{run(0, 7, 3, 9)}, []int{4}, api.OK)
}

// P5.4: the end of the last run matters first, then the order of the runs.
func TestRunsWhich(t *testing.T) {
	// The short run first would leave the long one to end later.
	checkRuns(t, []int{9, 9, 5, 9}, []api.Burner{run(0, 4, 1, 5), run(0, 4, 2, 6)}, []int{2, 0}, api.OK)
	// Both ends are the same: the first run begins first.
	checkRuns(t, flat(5, 9), []api.Burner{run(0, 5, 1, 5), run(0, 5, 4, 5)}, []int{0, 1}, api.OK)
	checkRuns(t, flat(5, 9), []api.Burner{run(0, 5, 4, 5), run(0, 5, 1, 5)}, []int{0, 4}, api.OK)
	// A run need not wait for others, or for the end of the last one.
	checkRuns(t, flat(9, 9), []api.Burner{run(0, 9, 1, 5), run(0, 9, 1, 5), run(6, 9, 1, 1)}, []int{0, 1, 6}, api.OK)
	// The last run ends at 4 only if the second one is ahead of both others.
	checkRuns(t, []int{9, 9, 4, 4, 9, 9}, []api.Burner{run(0, 6, 1, 4), run(0, 6, 2, 9), run(0, 6, 1, 4)}, []int{2, 0, 3}, api.OK)
	// A run that has to be early makes another one late.
	checkRuns(t, flat(6, 10), []api.Burner{run(0, 6, 1, 6), run(0, 6, 3, 6)}, []int{0, 1}, api.OK)
	checkRuns(t, flat(6, 10), []api.Burner{run(0, 6, 1, 6), run(0, 3, 3, 6)}, []int{3, 0}, api.OK)
	// There is room for all of them at once.
	checkRuns(t, flat(4, 9), []api.Burner{run(0, 4, 1, 1), run(0, 4, 3, 1), run(0, 4, 4, 1)}, []int{0, 0, 0}, api.OK)
}

// P5.4: the numbers at the limits.
func TestRunsLimits(t *testing.T) {
	week, most := api.MaxSlots, api.MaxAdded
	checkRuns(t, flat(week, 0), nil, nil, api.OK)
	checkRuns(t, flat(week, most), []api.Burner{run(0, week, week, most)}, []int{0}, api.OK)
	checkRuns(t, flat(week, most), []api.Burner{run(week-1, week, 1, most)}, []int{week - 1}, api.OK)
	checkRuns(t, flat(week, 8*most), slices.Repeat([]api.Burner{run(0, week, week, most)}, 6), make([]int, 6), api.OK)
	checkRuns(t, flat(week, 6*most-1), slices.Repeat([]api.Burner{run(0, week, week, most)}, 6), nil, api.ErrNone)
	checkRuns(t, flat(week, most), slices.Repeat([]api.Burner{run(0, week, 28, most)}, 6), []int{0, 28, 56, 84, 112, 140}, api.OK)
	checkRuns(t, flat(week-1, most), slices.Repeat([]api.Burner{run(0, week-1, 28, most)}, 6), nil, api.ErrNone)
}

// P5.4: what is not valid, ahead of plans that there are not.
func TestRunsErrors(t *testing.T) {
	good := run(0, 4, 2, 6)
	bad := []api.Burner{
		run(-1, 4, 2, 6), run(minInt, 4, 2, 6), run(maxInt, 4, 2, 6), run(4, 4, 1, 6), run(5, 4, 1, 6), run(3, 4, 2, 6),
		run(0, 5, 2, 6), run(0, maxInt, 2, 6), run(0, 0, 1, 6), run(0, -1, 1, 6), run(1, minInt, 1, 6), run(2, minInt, 5, 6),
		run(4, 4, 0, 6), run(0, 4, 0, 6), run(0, 4, -1, 6), run(0, 4, minInt, 6), run(0, 4, 5, 6), run(1, 4, 4, 6),
		run(0, 4, maxInt, 6), run(minInt, maxInt, 1, 6), run(minInt, minInt, 1, 6), run(maxInt, minInt, 1, 6), run(1, minInt, maxInt, 6),
		run(0, 4, 2, -1), run(0, 4, 2, api.MaxAdded+1), run(0, 4, 2, minInt), run(0, 4, 2, maxInt), {},
	}
	for _, b := range bad {
		for _, room := range []int{0, 10, api.MaxAdded} {
			checkRuns(t, flat(4, room), []api.Burner{b}, nil, api.ErrArg)
			checkRuns(t, flat(4, room), []api.Burner{good, b}, nil, api.ErrArg)
			checkRuns(t, flat(4, room), []api.Burner{b, good}, nil, api.ErrArg)
		}
	}
	checkRuns(t, nil, []api.Burner{run(0, 1, 1, 0)}, nil, api.ErrArg)
	checkRuns(t, flat(4, 100), slices.Repeat([]api.Burner{good}, 6), make([]int, 6), api.OK)
	checkRuns(t, flat(4, 100), slices.Repeat([]api.Burner{good}, 7), nil, api.ErrArg)
	checkRuns(t, flat(4, 100), slices.Repeat([]api.Burner{good}, 1000), nil, api.ErrArg)
	for _, n := range badNumbers(0, 8*api.MaxAdded) {
		for i := range 4 {
			room := flat(4, 100)
			room[i] = n
			for _, l := range [][]api.Burner{nil, {good}, {run(0, 1, 1, api.MaxAdded)}} {
				checkRuns(t, room, l, nil, api.ErrArg)
			}
		}
	}
	checkRuns(t, flat(4, 8*api.MaxAdded), []api.Burner{good}, []int{0}, api.OK)
	for _, l := range [][]api.Burner{nil, {good}, {run(0, api.MaxSlots+1, 1, 1)}, {run(0, 4, 1, 200)}} {
		checkRuns(t, flat(api.MaxSlots+1, 100), l, nil, api.ErrArg)
		checkRuns(t, flat(10000, 100), l, nil, api.ErrArg)
	}
}

// plans ranges over all plans, in lexicographic order, and when the last run ends.
func plans(room []int, l []api.Burner) func(yield func(starts []int, end int) bool) {
	return func(yield func([]int, int) bool) {
		free, starts := slices.Clone(room), []int{}
		var next func(end int) bool
		next = func(end int) bool {
			if len(starts) == len(l) {
				return yield(starts, end)
			}
			b := l[len(starts)]
			on := func(start, heat int) (ok bool) {
				ok = true
				for hour := start; hour < start+b.Hours; hour++ {
					free[hour] -= heat
					ok = ok && free[hour] >= 0
				}
				return ok
			}
			for start := b.Ready; start <= b.Due-b.Hours; start++ {
				starts = append(starts, start)
				more := !on(start, b.Heat) || next(max(end, start+b.Hours))
				on(start, -b.Heat)
				starts = starts[:len(starts)-1]
				if !more {
					return false
				}
			}
			return true
		}
		next(0)
	}
}

// rightRuns returns what Runs is to return of what is valid: of all plans it takes the
// first one that ends earlier than those before.
func rightRuns(room []int, l []api.Burner) ([]int, int, api.Errno) {
	best, least, e := []int(nil), 0, api.ErrNone
	for starts, end := range plans(room, l) {
		if e != api.OK || end < least {
			best, least, e = slices.Clone(starts), end, api.OK
		}
	}
	return best, least, e
}

// anyRoom returns so many hours with room up to most.
func anyRoom(r *rand.Rand, count, most int) []int {
	var room []int
	for range count {
		room = append(room, r.Intn(most+1))
	}
	return room
}

// anyRun returns a valid run with no more than so many starts.
func anyRun(r *rand.Rand, count, starts, most int) api.Burner {
	hours := 1 + r.Intn(count)
	if r.Intn(3) > 0 {
		hours = 1 + r.Intn(min(3, count))
	}
	ready := r.Intn(count - hours + 1)
	due := min(ready+hours+r.Intn(starts), count)
	return run(ready, due, hours, r.Intn(most+1))
}

// P5.4: all plans of some hours are tried.
func TestRunsAny(t *testing.T) {
	r := rand.New(rand.NewSource(5))
	seen := map[api.Errno]int{}
	later := 0
	for n := range 4000 {
		count, most := 1+r.Intn(10), []int{3, 20, api.MaxAdded}[n%3]
		room := anyRoom(r, count, most)
		if n%2 == 0 {
			room = flat(count, most)
		}
		var l []api.Burner
		for range r.Intn(api.MaxRuns + 1) {
			l = append(l, anyRun(r, count, 5, most*2/3))
		}
		want, _, e := rightRuns(room, l)
		checkRuns(t, room, l, want, e)
		seen[e]++
		if !slices.IsSorted(want) {
			later++
		}
	}
	if seen[api.OK] < 500 || seen[api.ErrNone] < 500 || later < 100 {
		t.Error("the runs do not show what they are to show", seen, later)
	}
}

// P5.4: runs that may be in any of a few hours, so that the order in which they take
// the room matters.
func TestRunsOrders(t *testing.T) {
	r := rand.New(rand.NewSource(6))
	ok := 0
	for range 150 {
		count := 6 + r.Intn(3)
		room := anyRoom(r, count, 4)
		for i := range room {
			room[i] += 5
		}
		var l []api.Burner
		for range 4 + r.Intn(3) {
			l = append(l, run(0, count, 1+r.Intn(3), 1+r.Intn(5)))
		}
		want, _, e := rightRuns(room, l)
		checkRuns(t, room, l, want, e)
		if e == api.OK {
			ok++
		}
	}
	if ok < 50 || ok > 140 {
		t.Error("the runs do not show what they are to show", ok)
	}
}

// P5.4: a few runs in a whole week.
func TestRunsWeek(t *testing.T) {
	r := rand.New(rand.NewSource(7))
	for n := range 60 {
		room := anyRoom(r, api.MaxSlots, 30)
		for i := range room {
			room[i] += 8 // so that there is some room in each hour
		}
		var l []api.Burner
		for range 2 + n%10/9 {
			l = append(l, run(r.Intn(20), api.MaxSlots-r.Intn(100), 1+r.Intn(12), r.Intn(20)))
		}
		want, _, e := rightRuns(room, l)
		checkRuns(t, room, l, want, e)
	}
}

// P1: a week with the most runs ends soon, also if most of what is tried is in vain.
func TestRunsEnd(t *testing.T) {
	// No two runs can be on at once, they need the whole week, and the last one of them
	// has to be on first.
	five := []api.Burner{run(0, 168, 28, 6), run(0, 168, 27, 6), run(0, 168, 26, 6), run(0, 168, 29, 6), run(0, 168, 30, 6)}
	checkRuns(t, flat(168, 10), append(five, run(0, 28, 28, 5)), []int{28, 56, 83, 109, 138, 0}, api.OK)
	checkRuns(t, flat(168, 10), append(five, run(0, 168, 29, 5)), nil, api.ErrNone)
	// Five runs of which no two can be on at once, and one that can be on with none: they
	// need more hours than they have, or not all, or all, so that the one has to be last.
	room := flat(168, 10)
	l := []api.Burner{run(0, 168, 1, 10)}
	for i := range 5 {
		l = append(l, run(0, 167, 32+i, 6))
	}
	checkRuns(t, room, l, nil, api.ErrNone)
	for i := range 5 {
		l[i+1] = run(0, 167, 31+i%2, 6)
	}
	checkRuns(t, room, l, []int{0, 1, 32, 64, 95, 127}, api.OK)
	for i := range 5 {
		l[i+1].Due = 157
	}
	checkRuns(t, room, l, []int{157, 0, 31, 63, 94, 126}, api.OK)
}
