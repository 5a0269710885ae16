package still_test

import (
	"math/rand"
	"testing"

	"wormtub/api"
	"wormtub/still"
)

// checkPlates checks what Plates returns.
func checkPlates(t *testing.T, c api.Curve, from, to, perhaps, surely int, wantE api.Errno) {
	t.Helper()
	if p, s, e := still.Plates(c, from, to); p != perhaps || s != surely || e != wantE {
		t.Fatal(c, from, to, p, s, e, "want", perhaps, surely, wantE)
	}
}

// P4.8: the examples: from 1000 perhaps 5200, 8176 and 9307, surely 5000, 8000, 9200
// and 9680 are reached.
func TestPlates(t *testing.T) {
	c := exampleCurve()
	checkPlates(t, c, 1000, 9000, 3, 3, api.OK)
	checkPlates(t, c, 1000, 9250, 3, 4, api.OK)
	checkPlates(t, c, 1000, 9200, 3, 3, api.OK)
	checkPlates(t, c, 1000, 9201, 3, 4, api.OK)
	checkPlates(t, c, 1000, 9307, 3, 4, api.OK)
	checkPlates(t, c, 1000, 9308, 4, 4, api.OK)
	checkPlates(t, c, 1000, 5000, 1, 1, api.OK)
	checkPlates(t, c, 1000, 5001, 1, 2, api.OK)
	checkPlates(t, c, 1000, 5201, 2, 2, api.OK)
	checkPlates(t, c, 1000, 1001, 1, 1, api.OK)
	for _, to := range []int{1000, 999, 0} {
		checkPlates(t, c, 1000, to, 0, 0, api.OK)
	}
	checkPlates(t, c, 10000, 10000, 0, 0, api.OK)
	checkPlates(t, c, 0, 0, 0, 0, api.OK)
	checkPlates(t, c, 0, 1, 0, 0, api.ErrLimit) // from water nothing else comes
	checkPlates(t, plainCurve(), 9998, 9999, 0, 0, api.ErrLimit)
}

// slowCurve returns a curve with which each plate adds from least to most, to liquids
// from 1 to 9000.
func slowCurve(least, most int) api.Curve {
	return api.Curve{
		Liquid: []int{0, 1, 9000, 10000},
		Vapour: []api.Span{one(0), span(1+least, 1+most), span(9000+least, 9000+most), one(10000)},
	}
}

// P4.8: there are at most so many plates; if perhaps they do, surely is told as -1.
func TestPlatesMany(t *testing.T) {
	checkPlates(t, slowCurve(1, 1), 5, 104, 99, 99, api.OK)
	checkPlates(t, slowCurve(1, 1), 5, 105, 100, 100, api.OK)
	checkPlates(t, slowCurve(1, 1), 5, 106, 0, 0, api.ErrLimit)
	checkPlates(t, slowCurve(1, 2), 5, 105, 50, 100, api.OK)
	checkPlates(t, slowCurve(1, 2), 5, 106, 51, -1, api.OK)
	checkPlates(t, slowCurve(1, 2), 5, 205, 100, -1, api.OK)
	checkPlates(t, slowCurve(1, 2), 5, 206, 0, 0, api.ErrLimit)
	checkPlates(t, slowCurve(0, 2), 5, 7, 1, -1, api.OK)
	checkPlates(t, slowCurve(0, 2), 5, 5, 0, 0, api.OK)
	// At the end of the curve one of rounding up is enough, and one of rounding down not.
	end := api.Curve{Liquid: []int{0, 9998, 10000}, Vapour: []api.Span{one(0), span(9998, 9999), one(10000)}}
	checkPlates(t, end, 9998, 10000, 2, -1, api.OK)
	checkPlates(t, end, 9999, 10000, 1, -1, api.OK)
}

// P4.8: a curve that is not valid, ahead of strengths beyond the range, ahead of all else.
func TestPlatesErrors(t *testing.T) {
	for _, n := range badNumbers(0, 10000) {
		checkPlates(t, exampleCurve(), n, 5000, 0, 0, api.ErrRange)
		checkPlates(t, exampleCurve(), 1000, n, 0, 0, api.ErrRange)
		checkPlates(t, exampleCurve(), n, n, 0, 0, api.ErrRange)
		checkPlates(t, exampleCurve(), 0, n, 0, 0, api.ErrRange)
	}
	for _, bad := range badCurves() {
		for _, n := range []int{0, 1000, 10000, -1, maxInt} {
			checkPlates(t, bad, n, 1000, 0, 0, api.ErrArg)
			checkPlates(t, bad, 1000, n, 0, 0, api.ErrArg)
		}
	}
}

// rightPlates goes up plate by plate, each with the Los or the His of what Vapour says.
func rightPlates(c api.Curve, end func(api.Span) int, from, to int) int {
	n := 0
	for from < to {
		from, n = end(rightVapour(c, one(from))), n+1
		if n > api.MaxPlates {
			return -1
		}
	}
	return n
}

// P4.8: columns of all kinds.
func TestPlatesAny(t *testing.T) {
	r := rand.New(rand.NewSource(9))
	differ, half, limit := 0, 0, 0
	for n := range 2000 {
		c := anyCurve(r, []int{0, 100, 3000}[n%3])
		from, to := r.Intn(4000), r.Intn(10001)
		perhaps, surely := rightPlates(c, highest, from, to), rightPlates(c, lowest, from, to)
		if perhaps == -1 {
			checkPlates(t, c, from, to, 0, 0, api.ErrLimit)
			limit++
			continue
		}
		checkPlates(t, c, from, to, perhaps, surely, api.OK)
		if surely == -1 {
			half++
		} else if surely > perhaps {
			differ++
		}
	}
	if differ < 100 || half < 100 || limit < 100 {
		t.Error("the columns do not show what they are to show", differ, half, limit)
	}
}

// endless returns a number of plates, or one beyond all if there is none.
func endless(n int, e api.Errno) int {
	if n == -1 || e == api.ErrLimit {
		return maxInt
	}
	return n
}

// P4.12: a stronger liquid needs no more plates, and surely is at least perhaps.
func TestPlatesOrder(t *testing.T) {
	r := rand.New(rand.NewSource(10))
	for n := range 100 {
		c, to := anyCurve(r, []int{0, 100, 3000}[n%3]), 1+r.Intn(10000)
		wasPerhaps, wasSurely := maxInt, maxInt
		for from := 0; from <= to; from += 1 + r.Intn(50) {
			perhaps, surely, e := still.Plates(c, from, to)
			least, most := endless(perhaps, e), endless(surely, e)
			if most < least || least > wasPerhaps || most > wasSurely {
				t.Fatal(c, from, to, perhaps, surely, e)
			}
			wasPerhaps, wasSurely = least, most
		}
	}
}

// P4.12: whatever the vapour on each plate is, within the curve, so many plates are
// needed as Plates says.
func TestPlatesTruth(t *testing.T) {
	r := rand.New(rand.NewSource(11))
	done := 0
	for n := range 1500 {
		c := anyCurve(r, []int{100, 3000}[n%2])
		from, to := r.Intn(4000), r.Intn(10001)
		perhaps, surely, e := still.Plates(c, from, to)
		least, most := endless(perhaps, e), endless(surely, e)
		strong, plates := rat(from), 0
		for ; strong.Cmp(rat(to)) < 0 && plates < 30; plates++ {
			low, high := height(c, lowest, strong), height(c, highest, strong)
			strong = plus(low, times(less(high, low), anyIn(r, span(0, 1))))
			strong = over(rat(ceil(times(strong, rat(16)))), rat(16))
			if strong.Cmp(high) > 0 {
				strong = high
			}
		}
		if plates < 30 && (plates < least || plates > most) || plates == 30 && most < 30 {
			t.Fatal(c, from, to, perhaps, surely, e, plates)
		}
		if plates > 0 && plates < 30 {
			done++
		}
	}
	if done < 300 {
		t.Error("too little of what was tried shows anything", done)
	}
}
