package still_test

import (
	"math/rand"
	"slices"
	"testing"

	"wormtub/api"
	"wormtub/still"
)

// checkCuts checks what Cuts returns.
func checkCuts(t *testing.T, c api.Curve, p api.Pot, amounts []int, fore, cut, end int, want []int, wantE api.Errno) {
	t.Helper()
	if got, e := still.Cuts(c, p, amounts, fore, cut, end); !slices.Equal(got, want) || e != wantE {
		t.Fatal(c, p, amounts, fore, cut, end, got, e, "want", want, wantE)
	}
}

// P4.4: the example, of which the strengths are 2660 to 5200 and 340 to 4250, and the
// limits at which a kind comes or goes.
func TestCuts(t *testing.T) {
	const heart, feints, spent = api.Heart, api.Feints, api.Spent
	for _, x := range []struct{ fore, cut, end, first, second int }{
		{0, 4000, 1000, heart + feints, heart + feints + spent},
		{0, 5200, 1000, heart + feints, feints + spent}, {0, 5201, 1000, feints, feints + spent},
		{0, 2661, 1000, heart + feints, heart + feints + spent}, {0, 2660, 1000, heart, heart + feints + spent},
		{0, 4250, 2660, heart + feints, heart + feints + spent}, {0, 4251, 2661, heart + feints + spent, feints + spent},
		{0, 10000, 5200, feints + spent, spent}, {0, 10000, 5201, spent, spent},
		{0, 10000, 4250, feints + spent, feints + spent}, {0, 10000, 4251, feints + spent, spent},
		{0, 4000, 340, heart + feints, heart + feints}, {0, 4000, 341, heart + feints, heart + feints + spent},
		{0, 340, 340, heart, heart}, {0, 341, 341, heart, heart + feints + spent}, {0, 3000, 3000, heart + feints + spent, heart + feints + spent},
		{0, 0, 0, heart, heart}, {0, 10000, 0, feints, feints}, {0, 10000, 10000, spent, spent},
		{999, 4000, 1000, heart + feints, heart + feints + spent},
		{1000, 4000, 1000, api.Foreshots, heart + feints + spent}, {1999, 4000, 1000, api.Foreshots, heart + feints + spent},
		{2000, 4000, 1000, api.Foreshots, api.Foreshots}, {api.MaxPot, 0, 0, api.Foreshots, api.Foreshots},
	} {
		checkCuts(t, exampleCurve(), examplePot(), []int{1000, 1000}, x.fore, x.cut, x.end, []int{x.first, x.second}, api.OK)
	}
	checkCuts(t, exampleCurve(), examplePot(), nil, 0, 0, 0, nil, api.OK)
	checkCuts(t, exampleCurve(), api.Pot{}, []int{}, api.MaxPot, api.MaxStrength, api.MaxStrength, nil, api.OK)
}

// P4.4: the foreshots end with the first amount that goes beyond them.
func TestCutsForeshots(t *testing.T) {
	strong := potOf(100, 100, 100)
	checkCuts(t, plainCurve(), strong, []int{3, 4, 5, 1}, 8, 6000, 1000, []int{api.Foreshots, api.Foreshots, api.Heart, api.Heart}, api.OK)
	checkCuts(t, plainCurve(), strong, []int{9, 1, 1}, 8, 6000, 1000, []int{api.Heart, api.Heart, api.Heart}, api.OK)
	// Of which the strength rounds up to what is asked for.
	checkCuts(t, plainCurve(), potOf(3, 1, 1), []int{3}, 0, 3334, 3333, []int{api.Heart + api.Feints}, api.OK)
	checkCuts(t, plainCurve(), potOf(3, 1, 1), []int{3}, 0, 3335, 3334, []int{api.Feints + api.Spent}, api.OK)
	checkCuts(t, plainCurve(), potOf(3, 1, 1), []int{3}, 0, 3333, 3333, []int{api.Heart}, api.OK)
}

// checkFirstErrors checks the errors that Cuts and Heart have as Run has them: too many,
// and not valid, ahead of all others.
func checkFirstErrors(t *testing.T, check func(c api.Curve, p api.Pot, amounts []int, e api.Errno)) {
	t.Helper()
	c, p := exampleCurve(), examplePot()
	many := ones(api.MaxDraws + 1)
	check(c, p, many, api.ErrLong)
	check(api.Curve{}, potOf(0, 1, 1), many, api.ErrLong)
	for _, amounts := range [][]int{nil, {1000}, {0}, {10001}, ones(api.MaxDraws)} {
		for _, bad := range badCurves() {
			check(bad, p, amounts, api.ErrArg)
		}
		for _, bad := range badPots() {
			check(c, bad, amounts, api.ErrArg)
		}
	}
}

// P4.4: the errors of Run, and between them what is beyond the ranges.
func TestCutsErrors(t *testing.T) {
	c, p := exampleCurve(), examplePot()
	ranges := [][3]int{
		{-1, 5, 5}, {api.MaxPot + 1, 5, 5}, {minInt, 5, 5}, {maxInt, 5, 5}, {0, 5, -1}, {0, 5, 6}, {0, 10001, 5},
		{0, 10001, 10001}, {0, -1, -1}, {0, -1, 0}, {0, maxInt, 5}, {0, minInt, minInt}, {0, maxInt, maxInt}, {0, 0, 1}, {0, 10000, 10001},
	}
	for _, x := range ranges {
		for _, amounts := range [][]int{nil, {1000}, {0}, {10001}, ones(api.MaxDraws)} {
			checkCuts(t, c, p, amounts, x[0], x[1], x[2], nil, api.ErrRange)
		}
	}
	for _, x := range append(ranges, [3]int{0, 4000, 1000}) {
		checkFirstErrors(t, func(c api.Curve, p api.Pot, amounts []int, e api.Errno) {
			t.Helper()
			checkCuts(t, c, p, amounts, x[0], x[1], x[2], nil, e)
		})
	}
	checkCuts(t, c, p, []int{1000, 0}, 0, 5, 5, nil, api.ErrRange)
	checkCuts(t, c, p, []int{1000, 9001, 0}, 0, 5, 5, nil, api.ErrShort)
	checkCuts(t, c, p, []int{1000, 9001}, api.MaxPot, 5, 5, nil, api.ErrShort)
}

// rightCuts returns the kinds of amounts that were drawn.
func rightCuts(l []api.Drawn, fore, cut, end int) []int {
	var sums []int
	amount := 0
	for _, d := range l {
		amount += d.Amount
		s := rightStrength(d.Alcohol, d.Amount)
		sum := 0
		for _, kind := range []struct {
			bit int
			can bool
		}{{api.Heart, s.Hi >= cut}, {api.Feints, s.Lo < cut && s.Hi >= end}, {api.Spent, s.Lo < end}} {
			if kind.can {
				sum += kind.bit
			}
		}
		if amount <= fore {
			sum = api.Foreshots
		}
		sums = append(sums, sum)
	}
	return sums
}

// P4.4: runs of all kinds; each sum of kinds occurs.
func TestCutsAny(t *testing.T) {
	r := rand.New(rand.NewSource(3))
	seen := map[int]int{}
	for n := range 6000 {
		c, p := anyCurve(r, []int{0, 50, 5000}[n%3]), anyPot(r, []int{5, 300, 100000, api.MaxPot}[n%4])
		amounts := anyAmounts(r, r.Intn(8), p.Volume)
		fore, cut := r.Intn(p.Volume/2+1), r.Intn(10001)
		end := r.Intn(cut + 1)
		l, _, e := rightRun(c, p, amounts)
		if e != api.OK {
			checkCuts(t, c, p, amounts, fore, cut, end, nil, e)
			continue
		}
		want := rightCuts(l, fore, cut, end)
		checkCuts(t, c, p, amounts, fore, cut, end, want, api.OK)
		for _, sum := range want {
			seen[sum]++
		}
	}
	for _, sum := range []int{api.Foreshots, 2, 4, 6, 8, 12, 14} {
		if seen[sum] < 20 {
			t.Error("the runs do not show what they are to show", sum, seen)
		}
	}
}

// checkHeart checks what Heart returns.
func checkHeart(t *testing.T, c api.Curve, p api.Pot, amounts []int, from, target, want int, wantE api.Errno) {
	t.Helper()
	if got, e := still.Heart(c, p, amounts, from, target); got != want || e != wantE {
		t.Fatal(c, p, amounts, from, target, got, e, "want", want, wantE)
	}
}

// P4.5: of the example surely 266 and 34 are drawn.
func TestHeart(t *testing.T) {
	c, p, two := exampleCurve(), examplePot(), []int{1000, 1000}
	checkHeart(t, c, p, two, 0, 1, 1, api.OK)
	checkHeart(t, c, p, two, 0, 1500, 1, api.OK)
	checkHeart(t, c, p, two, 0, 1501, 0, api.OK)
	checkHeart(t, c, p, two, 0, 2660, 0, api.OK)
	checkHeart(t, c, p, two, 0, 2661, 0, api.ErrNone)
	checkHeart(t, c, p, two, 0, 10000, 0, api.ErrNone)
	checkHeart(t, c, p, two, 1, 340, 1, api.OK)
	checkHeart(t, c, p, two, 1, 341, 0, api.ErrNone)
	checkHeart(t, plainCurve(), potOf(100, 100, 100), []int{1, 98, 1}, 1, 10000, 2, api.OK)
	checkHeart(t, plainCurve(), potOf(100, 0, 0), []int{1}, 0, 1, 0, api.ErrNone)
	// A third of it rounds up to 3334: that is not surely reached.
	checkHeart(t, plainCurve(), potOf(3, 1, 1), []int{3}, 0, 3333, 0, api.OK)
	checkHeart(t, plainCurve(), potOf(3, 1, 1), []int{3}, 0, 3334, 0, api.ErrNone)
}

// P4.5: more can be surer than less: of the rest all is drawn.
func TestHeartLater(t *testing.T) {
	wild := api.Curve{Liquid: []int{0, 10000}, Vapour: []api.Span{span(0, 10000), one(10000)}}
	p := potOf(10000, 5000, 5000)
	checkRun(t, wild, p, []int{1000, 9000}, []api.Drawn{drawn(1000, 444, 1000), drawn(9000, 4000, 4500)}, api.Pot{}, api.OK)
	checkHeart(t, wild, p, []int{1000, 9000}, 0, 4444, 1, api.OK)
	checkHeart(t, wild, p, []int{1000}, 0, 4444, 0, api.ErrNone)
	checkHeart(t, wild, p, []int{1000, 9000}, 0, 4445, 0, api.ErrNone)
}

// P4.5: the errors of Run, and between them what is beyond the ranges.
func TestHeartErrors(t *testing.T) {
	c, p := exampleCurve(), examplePot()
	for _, amounts := range [][]int{{1000, 1000}, {0, 1}, {1, 10001}} {
		for _, from := range badNumbers(0, 1) {
			checkHeart(t, c, p, amounts, from, 100, 0, api.ErrRange)
		}
		for _, target := range badNumbers(1, 10000) {
			checkHeart(t, c, p, amounts, 0, target, 0, api.ErrRange)
		}
	}
	for _, from := range []int{0, -1, 1} {
		checkHeart(t, c, p, nil, from, 100, 0, api.ErrRange)
	}
	for _, from := range []int{0, -1, maxInt} {
		for _, target := range []int{100, 0, 10001} {
			checkFirstErrors(t, func(c api.Curve, p api.Pot, amounts []int, e api.Errno) {
				t.Helper()
				checkHeart(t, c, p, amounts, from, target, 0, e)
			})
		}
	}
	checkHeart(t, c, p, []int{1000, 0}, 0, 100, 0, api.ErrRange)
	checkHeart(t, c, p, []int{10000, 1}, 0, 100, 0, api.ErrShort) // also behind the heart
	checkHeart(t, c, p, []int{10001, 0}, 1, 100, 0, api.ErrShort) // and ahead of it
}

// together returns how much was drawn, and how much alcohol it surely has.
func together(l []api.Drawn) (amount, alcohol int) {
	for _, d := range l {
		amount, alcohol = amount+d.Amount, alcohol+d.Alcohol.Lo
	}
	return amount, alcohol
}

// rightHeart tries all amounts, from the last one on.
func rightHeart(l []api.Drawn, from, target int) (int, api.Errno) {
	for i := len(l) - 1; i >= from; i-- {
		amount, alcohol := together(l[from : i+1])
		if ratio(alcohol, 10000, amount).Cmp(rat(target)) >= 0 {
			return i, api.OK
		}
	}
	return 0, api.ErrNone
}

// P4.5: runs of all kinds.
func TestHeartAny(t *testing.T) {
	r := rand.New(rand.NewSource(4))
	seen := map[int]int{}
	for n := range 8000 {
		c, p := anyCurve(r, []int{0, 50, 5000}[n%3]), anyPot(r, []int{5, 300, 100000, api.MaxPot}[n%4])
		amounts := anyAmounts(r, 1+r.Intn(7), p.Volume)
		from, target := r.Intn(len(amounts)), 1+r.Intn(10000)
		l, _, e := rightRun(c, p, amounts)
		if e != api.OK {
			checkHeart(t, c, p, amounts, from, target, 0, e)
			continue
		}
		if n%2 == 0 { // just what is reached with some amount
			some := from + r.Intn(len(l)-from)
			amount, alcohol := together(l[from : some+1])
			target = min(max(1, floor(ratio(alcohol, 10000, amount))+r.Intn(2)), 10000)
		}
		want, e := rightHeart(l, from, target)
		checkHeart(t, c, p, amounts, from, target, want, e)
		if e == api.OK && want < len(l)-1 {
			seen[want-from]++
		} else if e == api.ErrNone {
			seen[-1]++
		}
	}
	for _, key := range []int{-1, 0, 1, 2} {
		if seen[key] < 30 {
			t.Error("the runs do not show what they are to show", key, seen)
		}
	}
}
