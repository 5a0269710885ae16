package still_test

import (
	"math/rand"
	"testing"

	"wormtub/api"
	"wormtub/still"
)

// checkCycle checks what Cycle returns.
func checkCycle(t *testing.T, fresh, keep api.Span, start, limit, most, run int, wantE api.Errno) {
	t.Helper()
	if m, n, e := still.Cycle(fresh, keep, start, limit); m != most || n != run || e != wantE {
		t.Fatal(fresh, keep, start, limit, m, n, e, "want", most, run, wantE)
	}
}

// P4.6: the examples: 0, 250, 313, 329, 333 and 334 return; and what begins above what
// it would become falls.
func TestCycle(t *testing.T) {
	fresh, keep := one(1000), span(100, 250)
	for _, x := range []struct{ start, limit, most, run int }{
		{0, 400, 334, -1}, {0, 300, 313, 2}, {0, 334, 334, -1}, {0, 333, 334, 5}, {0, 332, 333, 4}, {0, 329, 333, 4},
		{0, 328, 329, 3}, {0, 250, 313, 2}, {0, 249, 250, 1}, {0, 0, 250, 1}, {334, 334, 334, -1}, {335, 335, 335, -1},
		{334, 333, 334, 0}, {1000, 999, 1000, 0}, {1000, 1000, 1000, -1}, {313, 400, 334, -1}, {313, 330, 333, 2},
		{api.MaxPot, api.MaxPot, api.MaxPot, -1}, {1, 0, 1, 0},
	} {
		checkCycle(t, fresh, keep, x.start, x.limit, x.most, x.run, api.OK)
	}
	checkCycle(t, span(7, 1000), span(0, 250), 0, 400, 334, -1, api.OK) // only the His count
	checkCycle(t, one(1000), one(0), 0, 0, 0, -1, api.OK)               // nothing returns
	checkCycle(t, one(0), one(999), 0, 0, 0, -1, api.OK)                // nothing comes
	checkCycle(t, one(0), one(999), 5, 5, 5, -1, api.OK)
	checkCycle(t, one(0), one(999), 6, 5, 6, 0, api.OK)
	checkCycle(t, one(1), one(1), 0, 0, 1, 1, api.OK) // a thousandth is rounded up
	checkCycle(t, one(1), one(1), 0, 1, 1, -1, api.OK)
	checkCycle(t, one(1), one(999), 0, 999, 999, -1, api.OK)
	checkCycle(t, one(1), one(999), 0, 998, 999, 999, api.OK)
}

// P4.6: the greatest amounts.
func TestCycleGreat(t *testing.T) {
	checkCycle(t, one(api.MaxPot), one(999), 0, api.MaxPot, 2144263498, 2, api.OK)
	checkCycle(t, one(api.MaxPot), one(999), api.MaxPot, api.MaxPot, 2145336165, 1, api.OK)
	checkCycle(t, one(api.MaxPot), one(500), 0, api.MaxPot, api.MaxPot, -1, api.OK)
	checkCycle(t, one(1074815), one(999), 0, api.MaxPot, 1073740185, -1, api.OK)
}

// P4.6: what is not valid, ahead of what is beyond the ranges.
func TestCycleErrors(t *testing.T) {
	for _, start := range []int{0, -1, api.MaxPot + 1} {
		for _, bad := range badSpans(0, api.MaxPot) {
			checkCycle(t, bad, one(5), start, 5, 0, 0, api.ErrArg)
			checkCycle(t, bad, one(5), 0, start, 0, 0, api.ErrArg)
		}
		for _, bad := range badSpans(0, api.MaxKeep) {
			checkCycle(t, one(5), bad, start, 5, 0, 0, api.ErrArg)
			checkCycle(t, one(5), bad, 0, start, 0, 0, api.ErrArg)
		}
	}
	for _, n := range badNumbers(0, api.MaxPot) {
		checkCycle(t, one(5), one(5), n, 5, 0, 0, api.ErrRange)
		checkCycle(t, one(5), one(5), 5, n, 0, 0, api.ErrRange)
		checkCycle(t, one(5), one(5), n, n, 0, 0, api.ErrRange)
	}
}

// rightCycle follows the runs, up to the amount that leaves no more than itself: b with
// (b + fresh) keep at most 1000 b, from which a division tells the least one.
func rightCycle(fresh, keep, start, limit int) (most, run int) {
	bound := max(start, ceil(ratio(fresh, keep, 1000-keep)))
	if bound <= limit {
		return bound, -1
	}
	before := start
	for before <= limit {
		before = ceil(ratio(before+fresh, keep, 1000))
		run++
	}
	return before, run
}

// P4.6: amounts of all sizes, with limits near what they become.
func TestCycleAny(t *testing.T) {
	r := rand.New(rand.NewSource(5))
	ever, never := 0, 0
	for n := range 4000 {
		size := []int{3, 100, 10000, 1000000}[n%4]
		fresh, keep := anySpan(r, 0, size), anySpan(r, 0, []int{20, 500, 990}[n%3])
		start := r.Intn(2 * size)
		bound, _ := rightCycle(fresh.Hi, keep.Hi, start, maxInt)
		limit := r.Intn(bound + 5)
		if r.Intn(2) == 0 {
			limit = max(0, bound-3+r.Intn(5))
		}
		most, run := rightCycle(fresh.Hi, keep.Hi, start, limit)
		checkCycle(t, fresh, keep, start, limit, most, run, api.OK)
		if run < 0 {
			ever++
		} else if run > 3 {
			never++
		}
	}
	if ever < 500 || never < 300 {
		t.Error("the runs do not show what they are to show", ever, never)
	}
}

// P4.11: a greater limit has no lesser run; and the one told of is the first that is above.
func TestCycleLimits(t *testing.T) {
	r := rand.New(rand.NewSource(6))
	for range 300 {
		fresh, keep, start := one(r.Intn(50)), one(r.Intn(900)), r.Intn(50)
		was := 0
		for limit := range 300 {
			most, run, e := still.Cycle(fresh, keep, start, limit)
			if e != api.OK || run == -1 && most > limit || run >= 0 && (most <= limit || run < was || was == maxInt) {
				t.Fatal(fresh, keep, start, limit, most, run, was, e)
			}
			was = run
			if run == -1 {
				was = maxInt
			}
		}
	}
}

// P4.11: whatever comes and returns, it is never more than what Cycle says.
func TestCycleTruth(t *testing.T) {
	r := rand.New(rand.NewSource(7))
	for range 1000 {
		fresh, keep, start := anySpan(r, 0, 1000), anySpan(r, 0, 990), r.Intn(1000)
		limit := r.Intn(3000)
		most, run, e := still.Cycle(fresh, keep, start, limit)
		if e != api.OK {
			t.Fatal(fresh, keep, start, limit, e)
		}
		sure := limit // as long as no run is told of that comes before
		if run == -1 {
			sure = most
		}
		for n, before := 0, rat(start); n < 30 && n != run; n++ {
			if before.Cmp(rat(sure)) > 0 {
				t.Fatal(fresh, keep, start, limit, most, run, n, before)
			}
			before = over(times(plus(before, anyIn(r, fresh)), anyIn(r, keep)), rat(1000))
			before = over(rat(floor(times(before, rat(16)))), rat(16)) // some more was lost
		}
	}
}

// checkWear checks what Wear returns.
func checkWear(t *testing.T, thick, wear api.Span, least, surely, perhaps int, wantE api.Errno) {
	t.Helper()
	if s, p, e := still.Wear(thick, wear, least); s != surely || p != perhaps || e != wantE {
		t.Fatal(thick, wear, least, s, p, e, "want", surely, perhaps, wantE)
	}
}

// P4.7: the example, what is just thick enough, and copper that does not wear.
func TestWear(t *testing.T) {
	thick, wear := span(10000, 10100), span(5, 10)
	checkWear(t, thick, wear, 9000, 100, 220, api.OK)
	checkWear(t, thick, wear, 9001, 99, 219, api.OK)
	checkWear(t, thick, wear, 8995, 100, 221, api.OK)
	checkWear(t, thick, wear, 8991, 100, 221, api.OK)
	checkWear(t, thick, wear, 8990, 101, 222, api.OK)
	checkWear(t, thick, wear, 10000, 0, 20, api.OK)
	checkWear(t, thick, wear, 10001, 0, 0, api.ErrLimit)
	checkWear(t, thick, wear, 0, 1000, 2020, api.OK)
	checkWear(t, thick, span(0, 10), 9000, 100, -1, api.OK)
	checkWear(t, thick, one(0), 9000, -1, -1, api.OK)
	checkWear(t, one(10000), one(0), 10000, -1, -1, api.OK)
	checkWear(t, one(0), one(0), 0, -1, -1, api.OK)
	checkWear(t, one(0), one(1), 0, 0, 0, api.OK)
	checkWear(t, one(0), one(0), 1, 0, 0, api.ErrLimit)
	checkWear(t, span(5, 100), one(1), 6, 0, 0, api.ErrLimit) // it perhaps is thicker
	checkWear(t, one(api.MaxThick), span(1, api.MaxThick), 0, 1, api.MaxThick, api.OK)
	checkWear(t, one(api.MaxThick), one(1), api.MaxThick, 0, 0, api.OK)
}

// P4.7: what is not valid, ahead of what is beyond the range, ahead of what is too thin.
func TestWearErrors(t *testing.T) {
	for _, least := range []int{0, -1, api.MaxThick + 1, 1000} {
		for _, bad := range badSpans(0, api.MaxThick) {
			checkWear(t, bad, one(5), least, 0, 0, api.ErrArg)
			checkWear(t, one(5), bad, least, 0, 0, api.ErrArg)
		}
	}
	for _, least := range badNumbers(0, api.MaxThick) {
		checkWear(t, one(5), one(5), least, 0, 0, api.ErrRange)
		checkWear(t, one(5), one(0), least, 0, 0, api.ErrRange)
	}
}

// P4.7: copper of all kinds, taken away run by run: surely it is thick enough as often,
// whatever the runs take, and perhaps as often.
func TestWearAny(t *testing.T) {
	r := rand.New(rand.NewSource(8))
	for range 3000 {
		thick, wear, least := anySpan(r, 0, 500), anySpan(r, 0, 30), r.Intn(400)
		surely, perhaps, e := still.Wear(thick, wear, least)
		if thick.Lo < least {
			checkWear(t, thick, wear, least, 0, 0, api.ErrLimit)
			continue
		}
		if e != api.OK || !lasts(thick.Lo, wear.Hi, least, surely) || !lasts(thick.Hi, wear.Lo, least, perhaps) {
			t.Fatal(thick, wear, least, surely, perhaps, e)
		}
	}
}

// lasts tells whether n is the greatest number of runs, or -1 if there is none.
func lasts(thick, wear, least, n int) bool {
	if wear == 0 {
		return n == -1
	}
	runs := 0
	for thick-wear >= least {
		thick, runs = thick-wear, runs+1
	}
	return runs == n
}
