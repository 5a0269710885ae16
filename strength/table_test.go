package strength_test

import (
	"math"
	"math/rand"
	"testing"

	"wormtub/api"
	"wormtub/strength"
)

// P1.2: the examples, and what is rounded.
func TestShownExamples(t *testing.T) {
	for _, x := range []struct{ strong, temp, want api.Span }{
		{one(5000), one(200), one(5000)},
		{one(4000), one(250), one(4220)},
		{span(4000, 5000), span(200, 300), span(4000, 5500)},
		{one(0), one(100), one(-100)},
		{one(10000), one(300), one(10200)},
		{one(0), span(100, 300), span(-100, 200)},
		{span(0, 10000), span(100, 300), span(-100, 10200)},
		{one(1), one(300), span(201, 202)},
		{one(1), one(100), span(-100, -99)}, // below 0, too, the Lo is rounded down
		{one(0), one(133), one(-67)},
		{one(5001), one(100), span(4601, 4602)},
	} {
		if s, e := strength.Shown(example(), x.strong, x.temp); s != x.want || e != api.OK {
			t.Error(x, s, e)
		}
	}
}

// P1.2: what is greatest, or least, may be at a temperature within the span.
func TestShownInner(t *testing.T) {
	x := example()
	x.Shown = [][]int{{0, 5000, 10000}, {300, 5600, 10900}, {0, 5000, 10000}}
	if s, e := strength.Shown(x, one(5000), span(150, 250)); s != span(5300, 5600) || e != api.OK {
		t.Error(s, e)
	}
	x.Shown[1] = []int{-300, 4400, 9100}
	if s, e := strength.Shown(x, one(5000), span(100, 300)); s != span(4400, 5000) || e != api.OK {
		t.Error(s, e)
	}
}

// misfits are spans that do not fit an axis from lo to hi.
func misfits(lo, hi int) []api.Span {
	return []api.Span{
		span(lo-1, hi), span(lo, hi+1), one(lo - 1), one(hi + 1), span(lo+1, lo), span(hi, lo),
		span(math.MinInt, math.MaxInt), span(math.MaxInt, math.MinInt), one(math.MinInt), one(math.MaxInt),
	}
}

// P1.2: a strength or a temp that does not fit has ErrRange.
func TestShownRange(t *testing.T) {
	x := example()
	x.Strengths = []int{1000, 5000, 9000}
	for _, s := range misfits(1000, 9000) {
		if r, e := strength.Shown(x, s, one(200)); r != (api.Span{}) || e != api.ErrRange {
			t.Error(s, r, e)
		}
	}
	for _, s := range misfits(100, 300) {
		if r, e := strength.Shown(x, one(5000), s); r != (api.Span{}) || e != api.ErrRange {
			t.Error(s, r, e)
		}
	}
	if r, e := strength.Shown(x, span(1000, 9000), span(100, 300)); r != span(-100, 10200) || e != api.OK {
		t.Error(r, e)
	}
}

// P1.3: the examples, ends that lie beyond what is shown, and what is rounded.
func TestStrengthExamples(t *testing.T) {
	for _, x := range []struct {
		shown, temp, want api.Span
		e                 api.Errno
	}{
		{one(4220), one(250), one(4000), api.OK},
		{one(5000), span(200, 300), span(4528, 5000), api.OK},
		{one(11000), one(200), api.Span{}, api.ErrNone},
		{one(10000), one(200), one(10000), api.OK},
		{one(10001), one(200), api.Span{}, api.ErrNone},
		{one(0), one(200), one(0), api.OK},
		{one(-1), one(200), api.Span{}, api.ErrNone},
		{one(-1), span(199, 200), span(0, 0), api.OK},
		{one(-2), span(199, 200), api.Span{}, api.ErrNone},
		{one(10001), span(200, 201), span(9998, 10000), api.OK},
		{one(10003), span(200, 201), api.Span{}, api.ErrNone},
		{span(-500, 20000), one(200), span(0, 10000), api.OK},
		{span(math.MinInt, math.MaxInt), one(200), span(0, 10000), api.OK},
		{span(math.MinInt, -1), one(200), api.Span{}, api.ErrNone},
		{span(math.MinInt, 0), one(200), one(0), api.OK},
		{span(math.MinInt, 1), one(200), span(0, 1), api.OK},
		{span(10001, math.MaxInt), one(200), api.Span{}, api.ErrNone},
		{span(10000, math.MaxInt), one(200), one(10000), api.OK},
		{span(9999, math.MaxInt), one(200), span(9999, 10000), api.OK},
		{one(math.MaxInt), one(200), api.Span{}, api.ErrNone},
		{one(math.MinInt), one(200), api.Span{}, api.ErrNone},
		{one(201), one(300), span(0, 1), api.OK},
		{one(9700), span(100, 300), span(9468, 10000), api.OK},
		{span(4600, 5500), span(100, 300), span(4150, 5883), api.OK},
	} {
		if s, e := strength.Strength(example(), x.shown, x.temp); s != x.want || e != x.e {
			t.Error(x, s, e)
		}
	}
}

// P1.3: numbers that are shown at a temperature between the ends of the span only.
func TestStrengthInner(t *testing.T) {
	x := example()
	x.Shown = [][]int{{0, 5000, 10000}, {300, 5600, 10900}, {0, 5000, 10000}}
	for _, c := range []struct {
		shown, want api.Span
		e           api.Errno
	}{
		{one(10900), one(10000), api.OK}, {one(10901), api.Span{}, api.ErrNone},
		{one(5600), span(5000, 5600), api.OK}, {one(0), one(0), api.OK},
	} {
		if s, e := strength.Strength(x, c.shown, span(100, 300)); s != c.want || e != c.e {
			t.Error(c, s, e)
		}
	}
	x.Shown[1] = []int{-300, 4400, 9100}
	if s, e := strength.Strength(x, one(-300), span(100, 300)); s != one(0) || e != api.OK {
		t.Error(s, e)
	}
	if s, e := strength.Strength(x, one(4400), span(100, 300)); s != span(4400, 5000) || e != api.OK {
		t.Error(s, e)
	}
}

// P1.3: numbers of shown are real ones: the greatest strength shows 2.01.
func TestStrengthReal(t *testing.T) {
	x := example()
	x.Shown = [][]int{{0, 1, 2}, {0, 1, 2}, {0, 1, 3}}
	if s, e := strength.Strength(x, one(2), one(201)); s != span(9950, 9951) || e != api.OK {
		t.Error(s, e)
	}
	if s, e := strength.Strength(x, span(2, 3), one(201)); s != span(9950, 10000) || e != api.OK {
		t.Error(s, e)
	}
}

// P1.3: the least and the greatest number that a table can show.
func TestStrengthEnds(t *testing.T) {
	x := example()
	x.Shown = [][]int{{-10000, -9999, -9998}, {-10000, -9999, -9998}, {19998, 19999, 20000}}
	for _, c := range []struct{ shown, temp, want api.Span }{
		{one(-10000), one(100), one(0)}, {span(-10001, -9999), one(100), span(0, 5000)},
		{one(20000), one(300), one(10000)}, {span(19999, 20001), one(300), span(5000, 10000)},
		{span(-10000, 20000), span(100, 300), span(0, 10000)},
	} {
		if s, e := strength.Strength(x, c.shown, c.temp); s != c.want || e != api.OK {
			t.Error(c, s, e)
		}
	}
}

// P1.3: ErrArg comes ahead of ErrRange, ErrRange ahead of ErrNone.
func TestStrengthErrors(t *testing.T) {
	for _, bad := range []api.Span{span(5, 4), span(math.MaxInt, math.MinInt), span(0, -1)} {
		for _, temp := range []api.Span{one(200), one(99)} {
			if s, e := strength.Strength(example(), bad, temp); s != (api.Span{}) || e != api.ErrArg {
				t.Error(bad, temp, s, e)
			}
		}
	}
	for _, temp := range misfits(100, 300) {
		for _, shown := range []api.Span{one(5000), one(11000)} {
			if s, e := strength.Strength(example(), shown, temp); s != (api.Span{}) || e != api.ErrRange {
				t.Error(shown, temp, s, e)
			}
		}
	}
}

// P1.4: the examples, and what is rounded.
func TestVolumeExamples(t *testing.T) {
	for _, x := range []struct{ amount, strong, temp, want api.Span }{
		{one(1009000), one(5000), one(300), one(1000000)},
		{one(1000), one(5000), one(200), one(1000)},
		{one(1000), span(0, 10000), one(100), span(1001, 1011)},
		{one(1000), one(5000), span(100, 300), span(991, 1009)},
		{span(1000, 2000), one(5000), one(200), span(1000, 2000)},
		{span(0, 1), span(0, 10000), span(100, 300), span(0, 2)},
		{one(0), one(5000), one(100), one(0)},
		{one(api.MaxAmount), one(7), one(200), one(api.MaxAmount)},
		{span(0, api.MaxAmount), span(0, 10000), span(200, 300), span(0, api.MaxAmount)},
		{one(1 << 39), one(10000), one(300), span(543236970245, 543236970246)},
	} {
		if s, e := strength.Volume(example(), x.amount, x.strong, x.temp); s != x.want || e != api.OK {
			t.Error(x, s, e)
		}
	}
}

// P1.4: what needs most room may be within the spans, and not at their ends.
func TestVolumeInner(t *testing.T) {
	x := example()
	x.Room = [][]int{{1000000, 1000000, 1000000}, {1000000, 1100000, 1000000}, {1000000, 1000000, 1000000}}
	if s, e := strength.Volume(x, one(1100000), span(2500, 7500), span(150, 250)); s != span(1000000, 1073171) || e != api.OK {
		t.Error(s, e)
	}
	x.Room[1][1] = 900000
	if s, e := strength.Volume(x, one(900000), span(2500, 7500), span(150, 250)); s != span(923076, 1000000) || e != api.OK {
		t.Error(s, e)
	}
}

// P1.4: ErrArg, then ErrRange, then ErrRefuse.
func TestVolumeErrors(t *testing.T) {
	x := example()
	x.Strengths = []int{1000, 5000, 9000}
	amounts := []api.Span{
		one(-1), one(api.MaxAmount + 1), span(0, api.MaxAmount+1), span(-1, 5), span(5, 4),
		span(math.MinInt, math.MaxInt), one(math.MaxInt),
	}
	for _, a := range amounts {
		for _, temp := range []api.Span{one(100), one(99)} {
			if s, e := strength.Volume(x, a, one(5000), temp); s != (api.Span{}) || e != api.ErrArg {
				t.Error(a, temp, s, e)
			}
		}
	}
	for _, s := range misfits(1000, 9000) {
		if r, e := strength.Volume(x, one(api.MaxAmount), s, one(100)); r != (api.Span{}) || e != api.ErrRange {
			t.Error(s, r, e)
		}
	}
	for _, s := range misfits(100, 300) {
		if r, e := strength.Volume(x, one(api.MaxAmount), one(5000), s); r != (api.Span{}) || e != api.ErrRange {
			t.Error(s, r, e)
		}
	}
	// 992/1000 of MaxAmount is not a whole number: one less than what is above it has
	// a Hi of just MaxAmount.
	least := 1090715534754
	if s, e := strength.Volume(x, span(5, least-1), one(5000), one(100)); s != span(5, api.MaxAmount) || e != api.OK {
		t.Error(s, e)
	}
	if s, e := strength.Volume(x, span(5, least), one(5000), one(100)); s != (api.Span{}) || e != api.ErrRefuse {
		t.Error(s, e)
	}
}

// P1.6: the strength, the volume with this strength, and their pure alcohol.
func TestMeasuredExamples(t *testing.T) {
	for _, x := range []struct{ amount, shown, temp, volume, strong, pure api.Span }{
		{one(1009000), one(5500), one(300), one(1000000), one(5000), one(500000)},
		{span(1000, 2000), one(5000), span(200, 300), span(991, 2000), span(4528, 5000), span(448, 1000)},
		{one(0), one(0), one(200), one(0), one(0), one(0)},
		{one(3), one(5000), one(200), one(3), one(5000), span(1, 2)},
		{one(1000), span(-100, 10200), span(100, 300), span(988, 1011), span(0, 10000), span(0, 1011)},
	} {
		v, s, p, e := strength.Measured(example(), x.amount, x.shown, x.temp)
		if v != x.volume || s != x.strong || p != x.pure || e != api.OK {
			t.Error(x, v, s, p, e)
		}
	}
}

// P1.6: errors of the arguments, of Strength, then of Volume, with nothing beside them.
func TestMeasuredErrors(t *testing.T) {
	for _, x := range []struct {
		amount, shown, temp api.Span
		e                   api.Errno
	}{
		{one(-1), one(11000), one(99), api.ErrArg},
		{one(api.MaxAmount + 1), one(11000), one(99), api.ErrArg},
		{span(5, 4), one(5000), one(200), api.ErrArg},
		{one(-1), one(11000), one(200), api.ErrArg},
		{one(5), span(5, 4), one(99), api.ErrArg},
		{one(api.MaxAmount), one(11000), one(99), api.ErrRange},
		{one(5), one(5000), one(301), api.ErrRange},
		{one(5), one(5000), span(201, 200), api.ErrRange},
		{one(api.MaxAmount), one(11000), one(100), api.ErrNone},
		{one(api.MaxAmount), one(4600), one(100), api.ErrRefuse},
	} {
		v, s, p, e := strength.Measured(example(), x.amount, x.shown, x.temp)
		if v != (api.Span{}) || s != (api.Span{}) || p != (api.Span{}) || e != x.e {
			t.Error(x, v, s, p, e)
		}
	}
}

// near returns a span of numbers that are shown, most often such that there are
// strengths for it.
func near(r *rand.Rand, t api.Table) api.Span {
	row := t.Shown[r.Intn(len(t.Shown))]
	return anySpan(r, row[0]-5, row[len(row)-1]+5)
}

// P1.2, P1.3, P1.4 and P1.6, with tables of all kinds.
func TestAnyTable(t *testing.T) {
	r := rand.New(rand.NewSource(1))
	found := 0
	for range 4000 {
		x := anyTable(r)
		strong, temp, shown := part(r, all(x.Strengths)), part(r, all(x.Temps)), near(r, x)
		if s, e := strength.Shown(x, strong, temp); s != rightShown(x, strong, temp) || e != api.OK {
			t.Fatal("Shown", x, strong, temp, s, e)
		}
		amount := anySpan(r, 0, api.MaxAmount)
		if r.Intn(2) == 0 {
			amount = anySpan(r, 0, 1000)
		}
		checkVolume(t, x, amount, strong, temp)
		want, ok := rightStrength(x, shown, temp)
		s, e := strength.Strength(x, shown, temp)
		if s != want || ok != (e == api.OK) || !ok && e != api.ErrNone {
			t.Fatal("Strength", x, shown, temp, s, e, want)
		}
		checkMeasured(t, x, amount, shown, temp)
		if ok {
			found++
		}
	}
	if found < 2000 || found > 3900 {
		t.Error("tables do not show what they are to show", found)
	}
}

// checkVolume compares Volume with what is right.
func checkVolume(t *testing.T, x api.Table, amount, strong, temp api.Span) {
	t.Helper()
	want, wantE := rightVolume(x, amount, strong, temp), api.OK
	if want.Hi > api.MaxAmount {
		want, wantE = api.Span{}, api.ErrRefuse
	}
	if s, e := strength.Volume(x, amount, strong, temp); s != want || e != wantE {
		t.Fatal("Volume", x, amount, strong, temp, s, e, want, wantE)
	}
}

// checkMeasured compares Measured with the functions that it is made of.
func checkMeasured(t *testing.T, x api.Table, amount, shown, temp api.Span) {
	t.Helper()
	var wantV, wantP api.Span
	wantS, wantE := strength.Strength(x, shown, temp)
	if wantE == api.OK {
		wantV, wantE = strength.Volume(x, amount, wantS, temp)
	}
	if wantE == api.OK {
		wantP, wantE = strength.Pure(wantV, wantS)
	} else {
		wantS = api.Span{}
	}
	v, s, p, e := strength.Measured(x, amount, shown, temp)
	if v != wantV || s != wantS || p != wantP || e != wantE {
		t.Fatal("Measured", x, amount, shown, temp, v, s, p, e)
	}
}

// P1.2 to P1.4: places in a table with all its rows.
func TestLargeTable(t *testing.T) {
	r := rand.New(rand.NewSource(2))
	x := api.Table{
		Temps:     rising(r, api.MaxRows, api.MinTemp, api.MaxTemp),
		Strengths: rising(r, api.MaxRows, 0, api.MaxStrength),
	}
	for range api.MaxRows {
		x.Shown = append(x.Shown, rising(r, api.MaxRows, -api.MaxStrength, 2*api.MaxStrength))
		x.Room = append(x.Room, rising(r, api.MaxRows, api.MinRoom, api.MaxRoom))
	}
	for i, temp := range x.Temps {
		checkPlace(t, x, one(x.Strengths[i]), one(temp))
		checkPlace(t, x, part(r, all(x.Strengths)), one(temp))
		checkPlace(t, x, one(x.Strengths[i]), part(r, all(x.Temps)))
	}
	checkPlace(t, x, all(x.Strengths), all(x.Temps))
}

// checkPlace compares Shown, Volume and Strength at a place with what is right.
func checkPlace(t *testing.T, x api.Table, strong, temp api.Span) {
	t.Helper()
	shown, e := strength.Shown(x, strong, temp)
	if shown != rightShown(x, strong, temp) || e != api.OK {
		t.Fatal("Shown", strong, temp, shown, e)
	}
	checkVolume(t, x, span(12345, 1<<39), strong, temp)
	want, _ := rightStrength(x, shown, temp)
	if s, e := strength.Strength(x, shown, temp); s != want || e != api.OK {
		t.Fatal("Strength", shown, temp, s, e, want)
	}
}

// P1.2 to P1.4: the greatest numbers that a table can have are not too great.
func TestWideTable(t *testing.T) {
	x := api.Table{
		Temps:     []int{api.MinTemp, api.MaxTemp},
		Strengths: []int{0, api.MaxStrength},
		Shown:     [][]int{{-10000, 19999}, {-9999, 20000}},
		Room:      [][]int{{1100000, 900000}, {1099999, 900001}},
	}
	r := rand.New(rand.NewSource(3))
	for range 500 {
		strong, temp := part(r, span(0, api.MaxStrength)), part(r, span(api.MinTemp, api.MaxTemp))
		checkPlace(t, x, strong, temp)
		checkVolume(t, x, anySpan(r, 1<<39, api.MaxAmount), strong, temp)
	}
}
