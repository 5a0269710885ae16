package cask_test

import (
	"math/rand"
	"slices"
	"testing"

	"wormtub/api"
	"wormtub/cask"
)

// playing checks what Play returns.
func playing(t *testing.T, l []api.CaskEvent, day int, want []api.Cask, taken int) {
	t.Helper()
	casks, i, e := cask.Play(l, day)
	if !slices.Equal(casks, want) || i != taken || e != api.OK {
		t.Fatal(l, day, casks, i, e, "want", want, taken)
	}
}

// failing checks that a ledger has an error at an index, on each way, and nothing beside it.
func failing(t *testing.T, l []api.CaskEvent, day, index int, want api.Errno) {
	t.Helper()
	if casks, i, e := cask.Play(l, day); len(casks) != 0 || i != index || e != want {
		t.Fatal("Play", l, day, casks, i, e, "want", index, want)
	}
	for _, number := range []int{1, 2, 77} {
		if c, e := cask.At(l, number, day); c != (api.Cask{}) || e != want {
			t.Fatal("At", l, day, c, e, "want", want)
		}
		if s, e := cask.Sources(l, number, day); len(s) != 0 || e != want {
			t.Fatal("Sources", l, day, s, e, "want", want)
		}
		if a, b, e := cask.Owned(l, number, day); len(a) != 0 || len(b) != 0 || e != want {
			t.Fatal("Owned", l, day, a, b, e, "want", want)
		}
	}
}

// P6.1: the examples.
func TestPlayExamples(t *testing.T) {
	one := api.Cask{Number: 1, Wood: 2, Room: 500, Owner: 9, Creditor: -1}
	two := api.Cask{Number: 2, Wood: 3, Place: 1, Room: 300, Owner: 9, Creditor: -1}
	one.Amount = 400
	playing(t, example(), 0, []api.Cask{one, two}, 3)
	one.Age, one.Woods, one.Places = 99, eight(2, 99), eight(0, 99)
	playing(t, example(), 99, []api.Cask{one, two}, 3)
	one.Amount, one.Age, one.Woods, one.Places = 250, 100, eight(2, 100), eight(0, 100)
	two.Amount, two.Age, two.Woods, two.Places = 150, 100, eight(2, 100), eight(0, 100)
	playing(t, example(), 100, []api.Cask{one, two}, 4)
	one.Age, one.Woods, one.Places = 140, eight(2, 140), eight(0, 140)
	two.Age, two.Woods, two.Places = 140, both(eight(2, 100), eight(3, 40)), both(eight(0, 100), eight(1, 40))
	playing(t, example(), 140, []api.Cask{one, two}, 4)
	one.Age, one.Woods, one.Place, one.Places = 170, eight(2, 170), 4, both(eight(0, 150), eight(4, 20))
	two.Amount, two.Age, two.Woods, two.Places = 200, 20, eight(3, 20), eight(1, 20)
	playing(t, example(), 170, []api.Cask{one, two}, 6)
	one.Age, one.Woods, one.Places = 200, eight(2, 200), both(eight(0, 150), eight(4, 50))
	two.Age, two.Woods, two.Places, two.Creditor = 50, eight(3, 50), eight(1, 50), 30
	playing(t, example(), 200, []api.Cask{one, two}, 7)
	for _, v := range []api.CaskEvent{drain(200, 2, 10), rack(200, 1, 2, 10), sell(200, 1, 8, 7)} {
		failing(t, append(example(), v), 200, 7, api.ErrRefuse)
	}
}

// P6.1: without events there are no casks, on the first day and on the last one.
func TestPlayNothing(t *testing.T) {
	for _, day := range []int{0, 1, api.MaxDay} {
		playing(t, nil, day, nil, 0)
		playing(t, []api.CaskEvent{}, day, nil, 0)
	}
}

// P6.1: an empty cask does not grow older, and what comes into it begins anew.
func TestPlayEmpty(t *testing.T) {
	l := []api.CaskEvent{newCask(3, 5, 6, 7, 9, 4), fill(10, 5, 9), drain(20, 5, 4), drain(30, 5, 5), fill(50, 5, 1)}
	c := api.Cask{Number: 5, Wood: 6, Place: 7, Room: 9, Owner: 4, Creditor: -1}
	playing(t, l, 2, nil, 0)
	playing(t, l, 3, []api.Cask{c}, 1)
	playing(t, l, 9, []api.Cask{c}, 1)
	c.Amount = 9
	playing(t, l, 10, []api.Cask{c}, 2)
	c.Amount, c.Age, c.Woods, c.Places = 5, 19, eight(6, 19), eight(7, 19)
	playing(t, l, 29, []api.Cask{c}, 3)
	c.Amount, c.Age, c.Woods, c.Places = 0, 0, eight(0, 0), eight(0, 0)
	playing(t, l, 30, []api.Cask{c}, 4)
	playing(t, l, 49, []api.Cask{c}, 4)
	c.Amount = 1
	playing(t, l, 50, []api.Cask{c}, 5)
	c.Age, c.Woods, c.Places = 7, eight(6, 7), eight(7, 7)
	playing(t, l, 57, []api.Cask{c}, 5)
	c.Age, c.Woods, c.Places = api.MaxDay-50, eight(6, api.MaxDay-50), eight(7, api.MaxDay-50)
	playing(t, l, api.MaxDay, []api.Cask{c}, 5)
}

// P6.1: racked to the last drop, a cask is empty; racked into, it has the least of both.
func TestPlayRacked(t *testing.T) {
	l := []api.CaskEvent{
		newCask(0, 8, 0, 0, 10, 1), newCask(0, 3, 1, 5, 20, 1), fill(0, 8, 10), fill(4, 3, 10),
		rack(10, 8, 3, 10),
	}
	empty := api.Cask{Number: 8, Room: 10, Owner: 1, Creditor: -1}
	into := api.Cask{Number: 3, Wood: 1, Place: 5, Room: 20, Owner: 1, Creditor: -1, Amount: 20, Age: 6}
	playing(t, l, 10, []api.Cask{into, empty}, 5) // neither wood, nor place, that all drops share
	into.Age, into.Woods, into.Places = 13, eight(1, 7), eight(5, 7)
	playing(t, l, 17, []api.Cask{into, empty}, 5)
}

// P6.1: the wood that counts is the one that the cask had then, also if it has another now.
func TestPlayCharred(t *testing.T) {
	l := []api.CaskEvent{
		newCask(0, 1, 0, 0, 10, 1), newCask(0, 2, 1, 0, 10, 1), fill(0, 1, 10), rack(5, 1, 2, 10), char(5, 1, 7),
		rack(8, 2, 1, 10), char(8, 2, 1), char(9, 2, 3),
	}
	c := api.Cask{
		Number: 1, Wood: 7, Room: 10, Owner: 1, Creditor: -1, Amount: 10, Age: 10,
		Woods: both(both(eight(0, 5), eight(1, 3)), eight(7, 2)), Places: eight(0, 10),
	}
	playing(t, l, 10, []api.Cask{c, {Number: 2, Wood: 3, Room: 10, Owner: 1, Creditor: -1}}, 8)
}

// P6.1: events of one day happen in their order, and the day counts behind them.
func TestPlayOneDay(t *testing.T) {
	l := []api.CaskEvent{
		newCask(7, 1, 1, 1, 10, 1), carry(7, 1, 2), fill(7, 1, 4), carry(7, 1, 3), sell(7, 1, 1, 2), pledge(7, 1, 2, 2),
		free(7, 1, 2), pledge(7, 1, 2, 5),
	}
	c := api.Cask{Number: 1, Wood: 1, Place: 3, Room: 10, Owner: 2, Creditor: 5, Amount: 4}
	playing(t, l, 7, []api.Cask{c}, 8)
	c.Age, c.Woods, c.Places = 1, eight(1, 1), eight(3, 1)
	playing(t, l, 8, []api.Cask{c}, 8)
}

// P6.1: the first event behind the day, and all that follow, are not looked at.
func TestPlayNotLookedAt(t *testing.T) {
	want, n, e := cask.Play(example(), 200)
	if n != 7 || e != api.OK {
		t.Fatal(want, n, e)
	}
	rest := []api.CaskEvent{{}, {Kind: -1}, fill(100, 1, 1), fill(201, 9, 0), {Day: -1}, fill(200, 1, 1)}
	for _, day := range []int{201, api.MaxDay, api.MaxDay + 1, maxInt} {
		for _, v := range []api.CaskEvent{fill(day, 1, 1), fill(day, 9, 9), {Kind: -1, Day: day}, {Day: day, Cask: -1}} {
			playing(t, append(append(example(), v), rest...), 200, want, 7)
		}
	}
	playing(t, []api.CaskEvent{fill(maxInt, 1, 1)}, api.MaxDay, nil, 0)
}

// P6.1: too many events, then the day, both with the index 0, then the first event with an
// error.
func TestPlayErrors(t *testing.T) {
	long := slices.Repeat([]api.CaskEvent{{Kind: -1}}, api.MaxCaskEvents+1)
	later := append(example(), slices.Repeat([]api.CaskEvent{carry(300, 1, 1)}, api.MaxCaskEvents-6)...)
	bad := append(example(), api.CaskEvent{Kind: -1, Day: 0})
	for _, day := range []int{-1, api.MaxDay + 1, minInt, maxInt} {
		failing(t, long, day, 0, api.ErrLong)
		failing(t, later, day, 0, api.ErrLong)
		failing(t, nil, day, 0, api.ErrRange)
		failing(t, example(), day, 0, api.ErrRange)
		failing(t, bad, day, 0, api.ErrRange)
		failing(t, long[1:], day, 0, api.ErrRange)
	}
	for _, day := range []int{0, 100, api.MaxDay} {
		failing(t, long, day, 0, api.ErrLong)
		failing(t, later, day, 0, api.ErrLong)
		failing(t, long[1:], day, 0, api.ErrArg)
	}
	if casks, n, e := cask.Play(later[:api.MaxCaskEvents], 200); len(casks) != 2 || n != 7 || e != api.OK {
		t.Error(casks, n, e)
	}
	if casks, n, e := cask.Play(later[:api.MaxCaskEvents], 300); len(casks) != 2 || n != api.MaxCaskEvents || e != api.OK {
		t.Error(casks, n, e)
	}
}

// P6.1: what is not valid, then what is not in order, then what cannot be; the first event
// with an error decides.
func TestPlayOrder(t *testing.T) {
	invalid, early, none := fill(60, 77, 0), fill(99, 77, 1), fill(100, 77, 1)
	errors := []api.Errno{api.ErrArg, api.ErrOrder, api.ErrNone}
	bad := []api.CaskEvent{invalid, early, none}
	l := example()[:4]
	for i, v := range bad {
		failing(t, append(slices.Clone(l), v), 100, 4, errors[i])
		for _, other := range bad {
			failing(t, append(slices.Clone(l), v, other), 100, 4, errors[i])
		}
	}
	// An event that is in order behind the one ahead of it is so on the same day, too.
	failing(t, append(slices.Clone(l), fill(100, 1, 1), fill(99, 1, 1)), 100, 5, api.ErrOrder)
	failing(t, append(slices.Clone(l), fill(100, 1, 1), fill(100, 1, 1), fill(0, 1, 1)), 100, 6, api.ErrOrder)
	failing(t, []api.CaskEvent{{Kind: api.Char, Day: -1}}, 0, 0, api.ErrArg)
	failing(t, []api.CaskEvent{newCask(-1, 1, 1, 1, 1, 1)}, 0, 0, api.ErrArg)
	failing(t, []api.CaskEvent{newCask(minInt, 1, 1, 1, 1, 1)}, 0, 0, api.ErrArg)
}

// P6.1: ledgers of all kinds of events, some with an error, on each day.
func TestPlayAny(t *testing.T) {
	r := rand.New(rand.NewSource(1))
	count := map[api.Errno]int{}
	for n := range 4000 {
		l := anyLedger(r, 4+r.Intn(50))
		if n%2 == 0 {
			l[r.Intn(len(l))] = anyEvent(r, r.Intn(l[len(l)-1].Day+1))
		}
		last := l[len(l)-1].Day
		for _, day := range []int{0, r.Intn(last + 1), last, last + r.Intn(9)} {
			m, wantE := rightPlay(l, day)
			count[wantE]++
			if wantE != api.OK {
				failing(t, l, day, m.taken, wantE)
				continue
			}
			playing(t, l, day, m.told(), m.taken)
		}
	}
	for _, e := range []api.Errno{api.ErrNone, api.ErrTwice, api.ErrState, api.ErrOrder, api.ErrFull, api.ErrShort, api.ErrRefuse} {
		if count[e] < 10 || count[api.OK] < 8000 {
			t.Error("the ledgers do not show what they are to show", e, count)
		}
	}
}
