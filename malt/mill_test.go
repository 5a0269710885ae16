package malt_test

import (
	"math/rand"
	"testing"
	"time"

	"wormtub/api"
	"wormtub/malt"
)

// mill returns a mill.
func mill(first, made, drawn, limit int) api.Mill {
	return api.Mill{First: first, Made: made, Drawn: drawn, Limit: limit}
}

// later returns how much dust there is a minute later.
func later(m api.Mill, dust int) int {
	return ceil(part(api.Whole-m.Drawn, dust, api.Whole)) + m.Made
}

// P2.3: the example, what is rounded, and what is at most MaxDust.
func TestDust(t *testing.T) {
	most := api.MaxDust
	for _, x := range []struct {
		m             api.Mill
		minutes, want int
	}{
		{mill(0, 100, 1000, 0), 0, 0}, {mill(0, 100, 1000, 0), 1, 100}, {mill(0, 100, 1000, 0), 2, 190},
		{mill(0, 100, 1000, 0), 3, 271},
		{mill(700, 0, 0, 0), api.MaxDay, 700},
		{mill(11, 0, 1000, 0), 1, 10}, {mill(11, 0, 1000, 0), 2, 9}, {mill(11, 0, 1000, 0), 9, 9}, // rounded up
		{mill(1, 0, 9999, 0), 1, 1}, {mill(1, 0, 9999, 0), api.MaxDay, 1},
		{mill(10000, 0, 9999, 0), 1, 1}, {mill(10001, 0, 9999, 0), 1, 2},
		{mill(5000, 0, api.Whole, 0), 1, 0}, {mill(5000, 7, api.Whole, 0), 1, 7}, {mill(5000, 7, api.Whole, 0), 9, 7},
		{mill(5, 3, 0, 0), api.MaxDay, 5 + 3*api.MaxDay},
		{mill(most, 0, 0, 0), api.MaxDay, most}, {mill(most, 1, 0, 0), 1, most}, {mill(most, 1, 0, 0), 0, most},
		{mill(most-1, 1, 0, 0), 1, most}, {mill(most-1, 1, 0, 0), 2, most}, {mill(most-2, 1, 0, 0), 1, most - 1},
		{mill(most-1, 2, 0, 0), 1, most},
		{mill(most, most, 0, 0), api.MaxDay, most}, {mill(most, most, api.Whole, 0), api.MaxDay, most},
		{mill(0, most, 1, most), api.MaxDay, most}, {mill(most, 0, api.Whole, 0), 1, 0},
		{mill(most, 0, 5000, 0), 1, most / 2},
	} {
		if n, e := malt.Dust(x.m, x.minutes); n != x.want || e != api.OK {
			t.Error(x, n, e)
		}
	}
}

// badMills returns mills that are not valid.
func badMills() []api.Mill {
	var l []api.Mill
	for _, n := range []int{-1, api.MaxDust + 1, minInt, maxInt} {
		l = append(l, mill(n, 1, 1, 1), mill(1, n, 1, 1), mill(1, 1, 1, n))
	}
	for _, n := range []int{-1, api.Whole + 1, minInt, maxInt} {
		l = append(l, mill(1, 1, n, 1))
	}
	return l
}

// P2.3: a mill that is not valid has ErrArg, ahead of minutes beyond their range.
func TestMillErrors(t *testing.T) {
	for _, m := range badMills() {
		for _, minutes := range []int{0, -1} {
			if n, e := malt.Dust(m, minutes); n != 0 || e != api.ErrArg {
				t.Error("Dust", m, minutes, n, e)
			}
		}
		if n, e := malt.Harm(m); n != 0 || e != api.ErrArg {
			t.Error("Harm", m, n, e)
		}
	}
	for _, minutes := range []int{-1, api.MaxDay + 1, minInt, maxInt} {
		if n, e := malt.Dust(mill(5, 1, 1, 1), minutes); n != 0 || e != api.ErrRange {
			t.Error(minutes, n, e)
		}
	}
	for _, m := range []api.Mill{mill(0, 0, 0, 0), mill(api.MaxDust, api.MaxDust, api.Whole, api.MaxDust)} {
		if _, e := malt.Dust(m, api.MaxDay); e != api.OK {
			t.Error(m, e)
		}
	}
}

// P2.3: the examples, and the edges.
func TestHarm(t *testing.T) {
	most := api.MaxDust
	for _, x := range []struct {
		m    api.Mill
		want int
		e    api.Errno
	}{
		{mill(0, 100, 1000, 900), 22, api.OK}, {mill(0, 100, 1000, 1000), 0, api.ErrNone},
		{mill(5, 0, 0, 4), 0, api.OK}, {mill(5, 0, 0, 5), 0, api.ErrNone}, {mill(5, 3, 0, 4), 0, api.OK},
		{mill(0, 0, 0, 0), 0, api.ErrNone}, {mill(0, 1, 0, 0), 1, api.OK}, {mill(0, 1, api.Whole, 0), 1, api.OK},
		{mill(0, 1, api.Whole, 1), 0, api.ErrNone},
		{mill(5, 3, 0, 10), 2, api.OK}, {mill(5, 3, 0, 11), 3, api.OK}, {mill(5, 3, 0, 5), 1, api.OK},
		{mill(9, 0, 1000, 8), 0, api.OK}, {mill(9, 0, 1000, 9), 0, api.ErrNone},
		{mill(500, 100, 5000, 400), 0, api.OK}, {mill(500, 100, 5000, 500), 0, api.ErrNone},
		{mill(0, 1, 0, most), most + 1, api.OK}, {mill(7, 2, 0, most), (most-7)/2 + 1, api.OK},
		{mill(most, 1, 0, most), 1, api.OK}, {mill(most, 0, 0, most), 0, api.ErrNone},
		{mill(0, most, 0, most), 2, api.OK}, {mill(0, most, 1, most), 2, api.OK}, {mill(0, most, api.Whole, most), 0, api.ErrNone},
		{mill(most, most, api.Whole, most), 0, api.ErrNone}, {mill(most, most, api.Whole-1, most), 1, api.OK},
		{mill(0, 1, 1, 9999), 10000, api.OK}, {mill(0, 1, 1, 10000), 0, api.ErrNone},
	} {
		if n, e := malt.Harm(x.m); n != x.want || e != x.e {
			t.Error(x, n, e)
		}
	}
}

// P2.3: the dust that takes longest is soon told, and rightly: never above what is
// drawn off as fast as it is made.
func TestHarmSlow(t *testing.T) {
	start := time.Now()
	made := 100_000
	for _, x := range []struct {
		limit int
		e     api.Errno
	}{{made*api.Whole - 1, api.OK}, {made * api.Whole, api.ErrNone}} {
		m := mill(0, made, 1, x.limit)
		minute, dust := 0, 0
		for dust <= m.Limit && later(m, dust) > dust {
			dust = later(m, dust)
			minute++
		}
		if dust <= m.Limit {
			minute = 0
		}
		if n, e := malt.Harm(m); n != minute || e != x.e {
			t.Error(m, n, e, minute)
		}
	}
	for first := range 200 {
		malt.Harm(mill(first, 1, 0, api.MaxDust))
		malt.Harm(mill(first, api.MaxDust/api.Whole, 1, api.MaxDust))
	}
	if d := time.Since(start); d > time.Minute {
		t.Error(d)
	}
}

// P2.3 and P2.6: mills of all kinds, minute by minute; dust that does not become more
// once never does again, and dust made more slowly, or drawn off faster, is never more.
func TestMillsAny(t *testing.T) {
	r := rand.New(rand.NewSource(3))
	count := map[bool]int{}
	for range 3000 {
		m := mill(r.Intn(500), r.Intn(60), r.Intn(api.Whole+1), r.Intn(1500))
		if r.Intn(2) == 0 {
			m.Drawn = r.Intn(600)
		}
		better := m
		better.Made -= r.Intn(m.Made + 1)
		better.Drawn += r.Intn(api.Whole - m.Drawn + 1)
		better.First -= r.Intn(m.First + 1)
		dust, minute, harm, falls := m.First, 0, -1, false
		for ; minute < 300; minute++ {
			n, e := malt.Dust(m, minute)
			less, lessE := malt.Dust(better, minute)
			if n != dust || e != api.OK || less > n || lessE != api.OK {
				t.Fatal("Dust", m, minute, n, e, dust, better, less, lessE)
			}
			if dust > m.Limit && harm < 0 {
				harm = minute
			}
			next := later(m, dust)
			if falls && next > dust {
				t.Fatal("the dust becomes more again", m, minute)
			}
			falls, dust = falls || next <= dust, next
		}
		count[harm >= 0]++
		n, e := malt.Harm(m)
		if harm >= 0 && (n != harm || e != api.OK) || harm < 0 && e == api.OK && n < minute || e != api.OK && n != 0 {
			t.Fatal("Harm", m, n, e, harm)
		}
		checkNever(t, m)
	}
	if count[true] < 500 || count[false] < 500 {
		t.Error("the mills do not show what they are to show", count)
	}
}

// checkNever checks that a mill that Harm calls harmless is so until its dust stays.
func checkNever(t *testing.T, m api.Mill) {
	t.Helper()
	n, e := malt.Harm(m)
	dust := m.First
	for minute := 0; ; minute++ {
		if dust > m.Limit {
			if n != minute || e != api.OK {
				t.Fatal(m, n, e, minute)
			}
			return
		}
		next := later(m, dust)
		if next == dust {
			break
		}
		dust = next
	}
	if n != 0 || e != api.ErrNone {
		t.Fatal(m, n, e)
	}
}
