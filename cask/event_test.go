package cask_test

import (
	"slices"
	"testing"

	"wormtub/api"
	"wormtub/cask"
)

// field is a field of an event, with the numbers that are in its range.
type field struct {
	of          func(*api.CaskEvent) *int
	least, most int
}

func number(v *api.CaskEvent) *int { return &v.Cask }
func other(v *api.CaskEvent) *int  { return &v.Other }
func person(v *api.CaskEvent) *int { return &v.Person }
func to(v *api.CaskEvent) *int     { return &v.To }
func amount(v *api.CaskEvent) *int { return &v.Amount }
func where(v *api.CaskEvent) *int  { return &v.Where }

// usage is a kind of events: one that is possible behind ground, and the fields that are
// used, and not used.
type usage struct {
	v      api.CaskEvent
	used   []field
	unused []func(*api.CaskEvent) *int
}

// ground returns the events that are ahead of those of usages.
func ground() []api.CaskEvent {
	return []api.CaskEvent{
		newCask(5, 1, 1, 1, 100, 3), newCask(5, 2, 2, 2, 100, 3), newCask(5, 3, 3, 3, 100, 3), newCask(5, 4, 4, 4, 100, 3),
		fill(5, 1, 50), fill(5, 2, 50), pledge(5, 4, 3, 6),
	}
}

func usages() []usage {
	cask := field{number, 0, api.MaxCaskNumber}
	quantity := field{amount, 1, api.MaxAmount}
	people := [2]field{{person, 0, api.MaxPerson}, {to, 0, api.MaxPerson}}
	place, wood := field{where, 0, 7}, field{other, 0, 7}
	type fields = []field
	type unused = []func(*api.CaskEvent) *int
	return []usage{
		{newCask(9, 7, 1, 2, 3, 4), fields{cask, wood, place, quantity, people[0]}, unused{to}},
		{fill(9, 1, 5), fields{cask, quantity}, unused{other, person, to, where}},
		{rack(9, 1, 2, 5), fields{cask, {other, 0, api.MaxCaskNumber}, quantity}, unused{person, to, where}},
		{drain(9, 1, 5), fields{cask, quantity}, unused{other, person, to, where}},
		{carry(9, 1, 5), fields{cask, place}, unused{other, person, to, amount}},
		{sell(9, 1, 3, 5), fields{cask, people[0], people[1]}, unused{other, amount, where}},
		{pledge(9, 1, 3, 5), fields{cask, people[0], people[1]}, unused{other, amount, where}},
		{free(9, 4, 6), fields{cask, people[0]}, unused{other, to, amount, where}},
		{char(9, 3, 5), fields{cask, place}, unused{other, person, to, amount}},
	}
}

// P6.1: of the fields that a kind uses none may be out of its range, the limits may be.
func TestRanges(t *testing.T) {
	for _, u := range usages() {
		if _, n, e := cask.Play(append(ground(), u.v), 9); n != 8 || e != api.OK {
			t.Fatal(u.v, n, e)
		}
		for _, f := range u.used {
			v := u.v
			for _, *f.of(&v) = range []int{f.least - 1, f.most + 1, -1, minInt, maxInt, 1<<40 + 1, 1<<60 + 1, -1 << 32, 1 - 1<<40} {
				failing(t, append(ground(), v), 9, 7, api.ErrArg)
				failing(t, []api.CaskEvent{v}, 9, 0, api.ErrArg)
			}
			for _, *f.of(&v) = range []int{f.least, f.most} {
				if _, _, e := cask.Play(append(ground(), v), 9); e == api.ErrArg {
					t.Error(v, e)
				}
			}
		}
	}
}

// P6.1 and R8: kinds that there are not are not valid.
func TestKinds(t *testing.T) {
	for _, kind := range []int{-1, 9, 10, minInt, maxInt, 1 << 8, 1 << 32, 1<<32 + 1} {
		failing(t, append(ground(), api.CaskEvent{Kind: kind, Day: 9, Cask: 1, Amount: 1}), 9, 7, api.ErrArg)
	}
}

// P6.1 and R8: fields that a kind does not use are not looked at.
func TestUnused(t *testing.T) {
	for _, u := range usages() {
		want, _, _ := cask.Play(append(ground(), u.v), 20)
		for _, junk := range []int{-1, 0, 1, 2, 3, 6, 8, 1 << 41, minInt, maxInt} {
			all := u.v
			for _, of := range u.unused {
				v := u.v
				*of(&v), *of(&all) = junk, junk
				playing(t, append(ground(), v), 20, want, 8)
			}
			playing(t, append(ground(), all), 20, want, 8)
		}
	}
}

// P6.1: the greatest numbers that there can be.
func TestGreatest(t *testing.T) {
	n, p, d := api.MaxCaskNumber, api.MaxPerson, api.MaxDay
	l := []api.CaskEvent{
		newCask(0, n, 7, 7, api.MaxAmount, p), fill(0, n, api.MaxAmount-1), newCask(0, 0, 0, 0, api.MaxAmount, 0),
		sell(0, 0, 0, p), rack(d, n, 0, api.MaxAmount-1), fill(d, 0, 1), pledge(d, 0, p, p),
	}
	want := []api.Cask{
		{Room: api.MaxAmount, Owner: p, Creditor: p, Amount: api.MaxAmount},
		{Number: n, Wood: 7, Place: 7, Room: api.MaxAmount, Owner: p, Creditor: -1},
	}
	playing(t, l, d, want, 7)
	want[0].Amount, want[0].Creditor, want[0].Age, want[0].Woods, want[0].Places = api.MaxAmount-1, -1, d, eight(7, d), eight(7, d)
	playing(t, l[:5], d, want, 5)
	failing(t, append(l[:5:5], fill(d, 0, api.MaxAmount)), d, 5, api.ErrFull)
}

// errorsOf checks the error of the last event of ledgers, behind the same events.
func errorsOf(t *testing.T, ahead []api.CaskEvent, l []api.CaskEvent, want api.Errno) {
	t.Helper()
	for _, v := range l {
		all := append(slices.Clone(ahead), v)
		if want != api.OK {
			failing(t, all, v.Day, len(ahead), want)
			// What follows an event with an error makes no difference.
			failing(t, append(all, fill(v.Day, 1, 1), api.CaskEvent{Kind: -1}), v.Day, len(ahead), want)
		} else if _, n, e := cask.Play(all, v.Day); n != len(all) || e != api.OK {
			t.Fatal(v, n, e)
		}
	}
}

// P6.1: a number is for one cask, and there are at most 256.
func TestMakeErrors(t *testing.T) {
	var l []api.CaskEvent
	for i := range api.MaxCasks {
		errorsOf(t, l, []api.CaskEvent{newCask(0, 3*i, 1, 1, 1, 1)}, api.OK)
		l = append(l, newCask(0, 3*i, 1, 1, 1, 1))
	}
	errorsOf(t, l, []api.CaskEvent{newCask(0, 1, 1, 1, 1, 1), newCask(9, api.MaxCaskNumber, 0, 0, 1, 0)}, api.ErrFull)
	errorsOf(t, l, []api.CaskEvent{newCask(0, 0, 1, 1, 1, 1), newCask(9, 255*3, 2, 2, 2, 2)}, api.ErrTwice)
	errorsOf(t, l[:9], []api.CaskEvent{newCask(0, 0, 1, 1, 1, 1), newCask(9, 24, 2, 2, 2, 2)}, api.ErrTwice)
	casks, n, e := cask.Play(l, 5)
	if len(casks) != 256 || n != 256 || e != api.OK {
		t.Fatal(len(casks), n, e)
	}
	for i, c := range casks {
		if c.Number != 3*i {
			t.Error(i, c)
		}
	}
}

// P6.1: what needs a cask needs both, ahead of all else.
func TestNoCask(t *testing.T) {
	errorsOf(t, ground(), []api.CaskEvent{
		fill(5, 9, 1000), rack(5, 9, 1, 1000), rack(5, 1, 9, 1000), rack(5, 9, 9, 1000), rack(5, 4, 9, 1), rack(5, 9, 4, 1),
		drain(5, 9, 1000), carry(5, 9, 1), sell(5, 9, 7, 7), pledge(5, 9, 7, 7), free(5, 9, 7), char(5, 9, 1),
		fill(5, 0, 1), fill(5, 5, 1), // no event has a cask that is not there from the start
	}, api.ErrNone)
	errorsOf(t, []api.CaskEvent{newCask(5, 1, 1, 1, 1, 1)}, []api.CaskEvent{carry(5, 2, 2), carry(5, 0, 2)}, api.ErrNone)
}

// P6.1: the errors of Fill, Drain, Carry and Char.
func TestSimpleErrors(t *testing.T) {
	errorsOf(t, ground(), []api.CaskEvent{
		fill(5, 1, 50), fill(6, 3, 100), fill(5, 4, 100), // also one that is pledged
		drain(5, 1, 50), drain(6, 1, 1), carry(5, 1, 1), carry(5, 3, 0), carry(5, 4, 0), char(5, 3, 3), char(6, 3, 0), char(6, 4, 0),
	}, api.OK)
	errorsOf(t, ground(), []api.CaskEvent{fill(5, 1, 51), fill(6, 3, 101), fill(5, 4, api.MaxAmount)}, api.ErrFull)
	errorsOf(t, ground(), []api.CaskEvent{drain(5, 1, 51), drain(5, 3, 1), drain(6, 1, api.MaxAmount)}, api.ErrShort)
	errorsOf(t, ground(), []api.CaskEvent{drain(5, 4, 1)}, api.ErrRefuse) // there is nothing in it, too
	errorsOf(t, append(ground(), fill(5, 4, 5)), []api.CaskEvent{drain(5, 4, 1), drain(5, 4, 5), drain(5, 4, 6)}, api.ErrRefuse)
	errorsOf(t, ground(), []api.CaskEvent{char(5, 1, 1), char(9, 2, 5)}, api.ErrState)
	errorsOf(t, append(ground(), fill(5, 4, 1)), []api.CaskEvent{char(5, 4, 1)}, api.ErrState)
	errorsOf(t, append(ground(), drain(5, 1, 49)), []api.CaskEvent{char(5, 1, 5)}, api.ErrState)
	errorsOf(t, append(ground(), drain(5, 1, 50)), []api.CaskEvent{char(5, 1, 5)}, api.OK)
}

// P6.1: the errors of Rack, in their order.
func TestRackErrors(t *testing.T) {
	l := append(ground(), newCask(5, 5, 0, 0, 60, 8), fill(5, 5, 20), newCask(5, 6, 0, 0, 10, 3))
	errorsOf(t, l, []api.CaskEvent{rack(5, 1, 2, 50), rack(5, 2, 1, 1), rack(9, 1, 3, 50), rack(5, 1, 6, 10)}, api.OK)
	errorsOf(t, l, []api.CaskEvent{rack(5, 1, 1, 1), rack(5, 1, 1, 999), rack(5, 3, 3, 1), rack(5, 4, 4, 1)}, api.ErrTwice)
	errorsOf(t, l, []api.CaskEvent{
		rack(5, 1, 5, 1), rack(5, 5, 1, 1), rack(5, 1, 5, 51), rack(5, 3, 5, 1), rack(5, 1, 5, 41), // owners
		rack(5, 4, 1, 1), rack(5, 1, 4, 1), rack(5, 1, 4, 51), rack(5, 5, 4, 1), rack(5, 4, 5, 1), // pledges
	}, api.ErrRefuse)
	errorsOf(t, l, []api.CaskEvent{rack(5, 1, 2, 51), rack(5, 3, 1, 1), rack(5, 3, 6, 11), rack(5, 1, 3, api.MaxAmount)}, api.ErrShort)
	errorsOf(t, l, []api.CaskEvent{rack(5, 1, 6, 11), rack(5, 1, 6, 50)}, api.ErrFull)
	errorsOf(t, append(l, fill(5, 2, 1)), []api.CaskEvent{rack(5, 1, 2, 50)}, api.ErrFull)
	errorsOf(t, append(l, free(5, 4, 6)), []api.CaskEvent{rack(5, 1, 4, 1)}, api.OK)
	errorsOf(t, append(l, sell(5, 1, 3, 8)), []api.CaskEvent{rack(5, 1, 5, 1), rack(5, 5, 1, 1)}, api.OK)
	errorsOf(t, append(l, sell(5, 1, 3, 8)), []api.CaskEvent{rack(5, 1, 2, 1), rack(5, 2, 1, 1)}, api.ErrRefuse)
}

// P6.1: the errors of Sell, Pledge and Free, in their order.
func TestOwnerErrors(t *testing.T) {
	l := append(ground(), pledge(5, 3, 3, 3))
	errorsOf(t, l, []api.CaskEvent{
		sell(5, 1, 3, 0), sell(5, 2, 3, 4), pledge(5, 1, 3, 9), pledge(5, 2, 3, 3), free(5, 4, 6), free(5, 3, 3),
	}, api.OK)
	errorsOf(t, l, []api.CaskEvent{sell(5, 1, 3, 3)}, api.ErrTwice)
	errorsOf(t, l, []api.CaskEvent{
		sell(5, 1, 4, 5), sell(5, 1, 4, 3), sell(5, 1, 4, 4), sell(5, 4, 3, 5), sell(5, 4, 3, 3), sell(5, 4, 6, 5), sell(5, 3, 3, 4),
	}, api.ErrRefuse)
	errorsOf(t, l, []api.CaskEvent{pledge(5, 1, 4, 5), pledge(5, 1, 4, 3), pledge(5, 4, 6, 7), pledge(5, 4, 4, 6)}, api.ErrRefuse)
	errorsOf(t, l, []api.CaskEvent{pledge(5, 4, 3, 6), pledge(5, 4, 3, 7), pledge(5, 3, 3, 3)}, api.ErrTwice)
	errorsOf(t, l, []api.CaskEvent{free(5, 1, 3), free(5, 1, 0), free(5, 4, 3), free(5, 4, 7), free(5, 3, 6)}, api.ErrRefuse)
	sold := append(ground(), sell(5, 1, 3, 8))
	errorsOf(t, sold, []api.CaskEvent{sell(5, 1, 8, 3), pledge(5, 1, 8, 3), sell(5, 1, 8, 9)}, api.OK)
	errorsOf(t, sold, []api.CaskEvent{sell(5, 1, 3, 9), pledge(5, 1, 3, 9), sell(5, 1, 3, 8)}, api.ErrRefuse)
	freed := append(ground(), free(5, 4, 6))
	errorsOf(t, freed, []api.CaskEvent{sell(5, 4, 3, 6), pledge(5, 4, 3, 7), pledge(5, 4, 3, 6)}, api.OK)
	errorsOf(t, freed, []api.CaskEvent{free(5, 4, 6)}, api.ErrRefuse)
}
