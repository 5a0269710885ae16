package strength_test

import (
	"math"
	"reflect"
	"testing"

	"wormtub/api"
	"wormtub/strength"
)

// steps returns count numbers, from first on, each so much greater than the last one.
func steps(count, first, by int) []int {
	l := make([]int, count)
	for i := range l {
		l[i] = first + i*by
	}
	return l
}

// large returns a table with so many temperatures and strengths.
func large(temps, strengths int) api.Table {
	t := api.Table{Temps: steps(temps, 0, 10), Strengths: steps(strengths, 0, 100)}
	for range temps {
		t.Shown = append(t.Shown, steps(strengths, 0, 100))
		t.Room = append(t.Room, steps(strengths, 1000000, 0))
	}
	return t
}

// P1.1: what is valid, up to the limits.
func TestCheckValid(t *testing.T) {
	for name, change := range map[string]func(x *api.Table){
		"as it is":            func(x *api.Table) {},
		"least temp":          func(x *api.Table) { x.Temps[0] = api.MinTemp },
		"greatest temp":       func(x *api.Table) { x.Temps[2] = api.MaxTemp },
		"temps one apart":     func(x *api.Table) { x.Temps[1] = 101 },
		"strengths one apart": func(x *api.Table) { x.Strengths[1] = 9999 },
		"not from 0":          func(x *api.Table) { x.Strengths[0] = 4999 },
		"least shown":         func(x *api.Table) { x.Shown[2][0] = -api.MaxStrength },
		"greatest shown":      func(x *api.Table) { x.Shown[0][2] = 2 * api.MaxStrength },
		"shown one apart":     func(x *api.Table) { x.Shown[1][1] = 1 },
		"shown less if warmer": func(x *api.Table) {
			x.Shown[2] = []int{-9000, -8000, -7000}
		},
		"least room":            func(x *api.Table) { x.Room[2][2] = api.MinRoom },
		"greatest room":         func(x *api.Table) { x.Room[0][0] = api.MaxRoom },
		"room that falls":       func(x *api.Table) { x.Room[2] = []int{1000000, 999999, 999998} },
		"room of equal numbers": func(x *api.Table) { x.Room[0] = []int{950000, 950000, 950000} },
	} {
		x := example()
		change(&x)
		if e := strength.Check(x); e != api.OK {
			t.Error(name, e)
		}
	}
	for _, n := range [][2]int{{2, 2}, {2, api.MaxRows}, {api.MaxRows, 2}, {api.MaxRows, api.MaxRows}} {
		if e := strength.Check(large(n[0], n[1])); e != api.OK {
			t.Error(n, e)
		}
	}
}

// invalid returns tables that are not valid, by what is wrong with them.
func invalid() map[string]api.Table {
	l := map[string]api.Table{
		"nothing":            {},
		"one temp":           large(1, 3),
		"one strength":       large(3, 1),
		"33 temps":           large(api.MaxRows+1, 3),
		"33 strengths":       large(3, api.MaxRows+1),
		"no temps at all":    large(0, 3),
		"no strength at all": large(3, 0),
	}
	for name, change := range map[string]func(x *api.Table){
		"temp too low":              func(x *api.Table) { x.Temps[0] = api.MinTemp - 1 },
		"temp too high":             func(x *api.Table) { x.Temps[2] = api.MaxTemp + 1 },
		"temps equal":               func(x *api.Table) { x.Temps[1] = 100 },
		"last temps equal":          func(x *api.Table) { x.Temps[2] = 200 },
		"temps fall":                func(x *api.Table) { x.Temps[0], x.Temps[1] = 200, 100 },
		"strength below 0":          func(x *api.Table) { x.Strengths[0] = -1 },
		"strength too great":        func(x *api.Table) { x.Strengths[2] = api.MaxStrength + 1 },
		"strengths equal":           func(x *api.Table) { x.Strengths[1] = 0 },
		"last strengths equal":      func(x *api.Table) { x.Strengths[1] = 10000 },
		"strengths fall":            func(x *api.Table) { x.Strengths[1], x.Strengths[2] = 10000, 5000 },
		"a row of shown is missing": func(x *api.Table) { x.Shown = x.Shown[:2] },
		"a row of shown too many":   func(x *api.Table) { x.Shown = append(x.Shown, x.Shown[2]) },
		"a row of room is missing":  func(x *api.Table) { x.Room = x.Room[:2] },
		"a row of room too many":    func(x *api.Table) { x.Room = append(x.Room, x.Room[2]) },
		"no shown":                  func(x *api.Table) { x.Shown = nil },
		"no room":                   func(x *api.Table) { x.Room = nil },
		"more temps than rows":      func(x *api.Table) { x.Temps = append(x.Temps, 400) },
		"more strengths than rows":  func(x *api.Table) { x.Strengths = []int{0, 5000, 6000, 10000} },
	} {
		x := example()
		change(&x)
		l[name] = x
	}
	for i := range 3 {
		for name, change := range map[string]func(x *api.Table){
			"shown short":        func(x *api.Table) { x.Shown[i] = x.Shown[i][:2] },
			"shown long":         func(x *api.Table) { x.Shown[i] = append(x.Shown[i], 10201) },
			"shown empty":        func(x *api.Table) { x.Shown[i] = nil },
			"shown too little":   func(x *api.Table) { x.Shown[i][0] = -api.MaxStrength - 1 },
			"shown too much":     func(x *api.Table) { x.Shown[i][2] = 2*api.MaxStrength + 1 },
			"shown equal":        func(x *api.Table) { x.Shown[i][1] = x.Shown[i][0] },
			"last shown equal":   func(x *api.Table) { x.Shown[i][1] = x.Shown[i][2] },
			"shown falls":        func(x *api.Table) { x.Shown[i][2] = x.Shown[i][1] - 1 },
			"shown far too much": func(x *api.Table) { x.Shown[i][2] = math.MaxInt },
			"room short":         func(x *api.Table) { x.Room[i] = x.Room[i][:2] },
			"room long":          func(x *api.Table) { x.Room[i] = append(x.Room[i], 1000000) },
			"room empty":         func(x *api.Table) { x.Room[i] = nil },
			"first room little":  func(x *api.Table) { x.Room[i][0] = api.MinRoom - 1 },
			"last room little":   func(x *api.Table) { x.Room[i][2] = api.MinRoom - 1 },
			"first room great":   func(x *api.Table) { x.Room[i][0] = api.MaxRoom + 1 },
			"last room great":    func(x *api.Table) { x.Room[i][2] = api.MaxRoom + 1 },
			"room 0":             func(x *api.Table) { x.Room[i][1] = 0 },
		} {
			x := example()
			change(&x)
			l[name+" "+string(rune('0'+i))] = x
		}
	}
	return l
}

// P1.1, and P1.2 to P1.6: a table that is not valid has ErrArg, ahead of all else.
func TestCheckInvalid(t *testing.T) {
	bad := one(-1)
	for name, x := range invalid() {
		if e := strength.Check(x); e != api.ErrArg {
			t.Error(name, "Check", e)
		}
		if s, e := strength.Shown(x, bad, bad); s != (api.Span{}) || e != api.ErrArg {
			t.Error(name, "Shown", s, e)
		}
		if s, e := strength.Strength(x, one(30000), bad); s != (api.Span{}) || e != api.ErrArg {
			t.Error(name, "Strength", s, e)
		}
		if s, e := strength.Volume(x, one(api.MaxAmount), bad, bad); s != (api.Span{}) || e != api.ErrArg {
			t.Error(name, "Volume", s, e)
		}
		v, s, p, e := strength.Measured(x, one(api.MaxAmount), one(30000), bad)
		if v != (api.Span{}) || s != (api.Span{}) || p != (api.Span{}) || e != api.ErrArg {
			t.Error(name, "Measured", v, s, p, e)
		}
	}
}

// R4: no argument is changed.
func TestArgumentsStay(t *testing.T) {
	x, was := example(), example()
	strength.Check(x)
	strength.Shown(x, span(1, 9000), span(101, 299))
	strength.Strength(x, span(-5, 7000), span(101, 299))
	strength.Volume(x, span(0, 9000), span(1, 9000), span(101, 299))
	strength.Measured(x, span(0, 9000), span(1, 9000), span(101, 299))
	if !reflect.DeepEqual(x, was) {
		t.Error(x)
	}
	l := []api.Part{{Amount: one(10), Strength: one(7)}, {Amount: one(5), Strength: one(3)}}
	strength.Mix(l, 3)
	if l[0] != (api.Part{Amount: one(10), Strength: one(7)}) || l[1] != (api.Part{Amount: one(5), Strength: one(3)}) {
		t.Error(l)
	}
}
