package cask_test

import (
	"math/rand"
	"slices"
	"sync"
	"testing"

	"wormtub/api"
	"wormtub/cask"
)

// drop is one drop: of which filling it is, where it is now, and where it has been.
type drop struct {
	kind
	in int
}

// follow returns a drop that was filled by an event, on a day. It goes wherever chance has
// it where some drops go and some stay. It may have gone out of all casks.
func follow(r *rand.Rand, l []api.CaskEvent, filling, day int) (d drop, is bool) {
	m := newModel()
	for i, v := range l {
		if v.Day > day {
			break
		}
		d = d.until(m, v.Day)
		goes := is && d.in == v.Cask && (v.Amount == m.casks[v.Cask].amount || r.Intn(2) == 0)
		switch {
		case i == filling:
			d, is = drop{kind{fill: i}, v.Cask}, true
		case v.Kind == api.Rack && goes:
			d.in = v.Other
		case v.Kind == api.Drain && goes:
			return drop{}, false
		}
		m.do(v)
	}
	return d.until(m, day), is
}

// until lets a drop lie in its cask, and days pass.
func (d drop) until(m *model, day int) drop {
	for m.day < day {
		if c := m.casks[d.in]; c != nil {
			d.age++
			d.woods[c.wood]++
			d.places[c.place]++
		}
		m.pass()
	}
	return d
}

// checkDrop checks that what is told of a cask, and of its fillings, is true of a drop.
func checkDrop(t *testing.T, l []api.CaskEvent, day int, d drop) {
	t.Helper()
	c, e := cask.At(l, d.in, day)
	if e != api.OK || c.Amount == 0 || d.age < c.Age {
		t.Fatal(l, day, d, c, e)
	}
	for i := range 8 {
		if d.woods[i] < c.Woods[i] || d.places[i] < c.Places[i] {
			t.Fatal(l, day, d, c, e)
		}
	}
	if s, e := cask.Sources(l, d.in, day); e != api.OK || !slices.Contains(s, d.fill) {
		t.Fatal(l, day, d, s, e)
	}
}

// P6.5: what is told is true of each drop, whatever way it takes.
func TestDropsFollow(t *testing.T) {
	r := rand.New(rand.NewSource(4))
	in, out := 0, 0
	for range 3000 {
		l := anyLedger(r, 6+r.Intn(60))
		filling := r.Intn(len(l))
		for l[filling].Kind != api.Fill && filling > 0 {
			filling--
		}
		if l[filling].Kind != api.Fill {
			continue
		}
		day := l[len(l)-1].Day + r.Intn(5)
		for range 3 {
			if d, is := follow(r, l, filling, day); is {
				checkDrop(t, l, day, d)
				in++
			} else {
				out++
			}
		}
	}
	if in < 2000 || out < 500 {
		t.Error("the drops do not show what they are to show", in, out)
	}
}

// P6.5: what was filled is in casks, or was drained; no sum of woods, or of places, is above
// the age; no cask holds more than its room.
func TestConserved(t *testing.T) {
	r := rand.New(rand.NewSource(5))
	for range 2000 {
		l := anyLedger(r, 4+r.Intn(80))
		casks, n, e := cask.Play(l, l[len(l)-1].Day+3)
		if n != len(l) || e != api.OK {
			t.Fatal(l, n, e)
		}
		there := 0
		for _, v := range l {
			switch v.Kind {
			case api.Fill:
				there += v.Amount
			case api.Drain:
				there -= v.Amount
			}
		}
		for _, c := range casks {
			there -= c.Amount
			woods, places := 0, 0
			for i := range 8 {
				woods, places = woods+c.Woods[i], places+c.Places[i]
			}
			if woods > c.Age || places > c.Age || c.Amount < 0 || c.Amount > c.Room {
				t.Fatal(l, c)
			}
		}
		if there != 0 {
			t.Fatal(l, casks)
		}
	}
}

// P6.5: a cask has another owner just by what its owner sells; what is pledged is neither
// sold, nor drained, nor racked, nor pledged again, until it is freed by its creditor.
func TestOwners(t *testing.T) {
	r := rand.New(rand.NewSource(6))
	for range 400 {
		l := anyLedger(r, 4+r.Intn(40))
		last := l[len(l)-1].Day
		for i, v := range l {
			before, e := cask.At(l[:i], v.Cask, last)
			behind, e2 := cask.At(l[:i+1], v.Cask, last)
			if e2 != api.OK || (e == api.OK) == (v.Kind == api.Make) {
				t.Fatal(l, i, e, e2)
			}
			if v.Kind != api.Make && !allowed(v, before, behind) {
				t.Fatal(l, i, before, behind)
			}
		}
	}
}

// allowed tells whether an event may make of a cask what it made of it.
func allowed(v api.CaskEvent, before, behind api.Cask) bool {
	sold := v.Kind == api.Sell && before.Owner == v.Person && behind.Owner == v.To
	given := v.Kind == api.Pledge && before.Owner == v.Person && before.Creditor == -1 && behind.Creditor == v.To
	freed := v.Kind == api.Free && before.Creditor == v.Person && behind.Creditor == -1
	if before.Creditor != -1 && (v.Kind == api.Sell || behind.Amount < before.Amount) {
		return false
	}
	return (sold || before.Owner == behind.Owner) && (given || freed || before.Creditor == behind.Creditor)
}

// P6.5 and P10: a ledger that is played up to a day leaves what its events up to then
// leave; from there on the whole leaves the same as what is played on.
func TestCutAnywhere(t *testing.T) {
	r := rand.New(rand.NewSource(7))
	for range 500 {
		l := anyLedger(r, 4+r.Intn(40))
		whole, _, _ := cask.Play(l, l[len(l)-1].Day)
		var part []api.CaskEvent
		was, _ := rightPlay(nil, 0)
		for day := 0; day <= l[len(l)-1].Day; day++ {
			casks, n, e := cask.Play(l, day)
			// Played on by its own events only, day by day.
			was.until(day)
			for _, v := range l[len(part):n] {
				was.do(v)
			}
			part = l[:n]
			playing(t, part, day, casks, n)
			if e != api.OK || !slices.Equal(casks, was.told()) {
				t.Fatal(l, day, casks, e)
			}
		}
		playing(t, part, l[len(l)-1].Day, whole, len(l))
	}
}

// woven returns the events of two ledgers in an order that keeps the days, and of each event
// of the first ledger where it is then.
func woven(r *rand.Rand, a, b []api.CaskEvent) (l []api.CaskEvent, at []int) {
	for len(a)+len(b) > 0 {
		take := len(b) == 0 || len(a) > 0 && (a[0].Day < b[0].Day || a[0].Day == b[0].Day && r.Intn(2) == 0)
		if take {
			at, l, a = append(at, len(l)), append(l, a[0]), a[1:]
		} else {
			l, b = append(l, b[0]), b[1:]
		}
	}
	return l, at
}

// P6.5 and P9: events of casks that never meet may be told in any order that keeps the days.
func TestAnyOrder(t *testing.T) {
	r := rand.New(rand.NewSource(8))
	for range 1000 {
		a, b := anyLedger(r, 4+r.Intn(40)), anyLedger(r, 4+r.Intn(40))
		for i := range b {
			b[i].Cask += 4
			b[i].Other += 4
			if b[i].Kind == api.Make {
				b[i].Other -= 4 // its wood
			}
		}
		day := max(a[len(a)-1].Day, b[len(b)-1].Day) + r.Intn(3)
		alone, _, _ := cask.Play(a, day)
		others, _, _ := cask.Play(b, day)
		l, at := woven(r, a, b)
		playing(t, l, day, append(slices.Clone(alone), others...), len(l))
		for _, c := range alone {
			want, _ := cask.Sources(a, c.Number, day)
			for i, fill := range want {
				want[i] = at[fill]
			}
			coming(t, l, c.Number, day, want...)
		}
	}
}

// P6.4: arguments are only read, and no two results share memory.
func TestMemory(t *testing.T) {
	l := append(example(), fill(200, 1, 1), drain(201, 2, 10))
	was := slices.Clone(l)
	for _, day := range []int{0, 150, 200, 201} {
		casks, _, e := cask.Play(l, day)
		again, _, _ := cask.Play(l, day)
		cask.At(l, 1, day)
		own, pledged, _ := cask.Owned(l, 9, day)
		pledged2, own2, _ := cask.Owned(l, 30, day)
		s, _ := cask.Sources(l, 1, day)
		s2, _ := cask.Sources(l, 1, day)
		for _, all := range [][]int{own, pledged, own2, pledged2, s} {
			for i := range all {
				all[i] = -7
			}
		}
		for i := range casks {
			casks[i] = api.Cask{}
		}
		if !slices.Equal(l, was) || slices.Contains(s2, -7) || slices.Contains(again, api.Cask{}) {
			t.Error(l, s2, again, e)
		}
		owned, _, _ := cask.Owned(l, 9, day)
		if slices.Contains(owned, -7) {
			t.Error(owned)
		}
	}
}

// P6.4 and P10: calls at the same time do not disturb each other, and have the same results.
func TestAgain(t *testing.T) {
	l := anyLedger(rand.New(rand.NewSource(9)), 60)
	bad := append(slices.Clone(l), fill(l[59].Day, 99, 1))
	day := l[59].Day + 1
	casks, n, _ := cask.Play(l, day)
	s, _ := cask.Sources(l, 1, day)
	var wait sync.WaitGroup
	for range 8 {
		wait.Go(func() {
			for range 100 {
				casks2, n2, e2 := cask.Play(l, day)
				s2, e3 := cask.Sources(l, 1, day)
				_, n4, e4 := cask.Play(bad, day)
				if !slices.Equal(casks2, casks) || n2 != n || e2 != api.OK || !slices.Equal(s2, s) || e3 != api.OK {
					t.Error(casks2, n2, e2, s2, e3)
				}
				if n4 != 60 || e4 != api.ErrNone {
					t.Error(n4, e4)
				}
			}
		})
	}
	wait.Wait()
}
