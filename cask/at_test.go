package cask_test

import (
	"math/rand"
	"slices"
	"testing"

	"wormtub/api"
	"wormtub/cask"
)

// P6.2: the examples.
func TestAt(t *testing.T) {
	for _, x := range []struct {
		number, day int
		want        api.Cask
	}{
		{1, 99, api.Cask{Place: 0, Amount: 400, Age: 99, Woods: eight(2, 99), Places: eight(0, 99), Creditor: -1}},
		{2, 140, api.Cask{
			Place: 1, Amount: 150, Age: 140, Creditor: -1,
			Woods: both(eight(2, 100), eight(3, 40)), Places: both(eight(0, 100), eight(1, 40)),
		}},
		{1, 170, api.Cask{
			Place: 4, Amount: 250, Age: 170, Creditor: -1, Woods: eight(2, 170), Places: both(eight(0, 150), eight(4, 20)),
		}},
		{2, 200, api.Cask{Place: 1, Amount: 200, Age: 50, Creditor: 30, Woods: eight(3, 50), Places: eight(1, 50)}},
	} {
		x.want.Number, x.want.Owner, x.want.Wood, x.want.Room = x.number, 9, x.number+1, 700-200*x.number
		if c, e := cask.At(example(), x.number, x.day); c != x.want || e != api.OK {
			t.Error(x, c, e)
		}
	}
}

// P6.2: there is no cask with a number, or not yet; the error of the ledger comes first.
func TestAtNone(t *testing.T) {
	l := append(example(), newCask(300, 77, 1, 1, 1, 1))
	for _, number := range []int{0, 3, 77, -1, api.MaxCaskNumber, api.MaxCaskNumber + 1, minInt, maxInt} {
		for _, day := range []int{0, 150, 299} {
			if c, e := cask.At(l, number, day); c != (api.Cask{}) || e != api.ErrNone {
				t.Error(number, day, c, e)
			}
			if s, e := cask.Sources(l, number, day); len(s) != 0 || e != api.ErrNone {
				t.Error(number, day, s, e)
			}
		}
		if _, e := cask.At(append(l, fill(1, 1, 1)), number, 300); e != api.ErrOrder {
			t.Error(number, e)
		}
		if _, e := cask.Sources(append(l, fill(1, 1, 1)), number, 300); e != api.ErrOrder {
			t.Error(number, e)
		}
	}
	if c, e := cask.At(l, 77, 300); c.Number != 77 || e != api.OK {
		t.Error(c, e)
	}
}

// owning checks what Owned returns.
func owning(t *testing.T, l []api.CaskEvent, person, day int, own, pledged []int) {
	t.Helper()
	a, b, e := cask.Owned(l, person, day)
	if !slices.Equal(a, own) || !slices.Equal(b, pledged) || e != api.OK {
		t.Fatal(l, person, day, a, b, e, "want", own, pledged)
	}
}

// P6.2: the examples, rising numbers, and persons of whom nothing is known.
func TestOwned(t *testing.T) {
	owning(t, example(), 9, 200, []int{1, 2}, nil)
	owning(t, example(), 30, 200, nil, []int{2})
	owning(t, example(), 30, 199, nil, nil)
	l := []api.CaskEvent{
		newCask(0, 7, 0, 0, 1, 1), newCask(0, 5, 0, 0, 1, 1), newCask(0, 6, 0, 0, 1, 0), newCask(0, 1, 0, 0, 1, 1),
		pledge(1, 7, 1, 2), pledge(1, 5, 1, 2), pledge(1, 1, 1, 1), pledge(1, 6, 0, 2),
		free(2, 5, 2), sell(2, 5, 1, 2), pledge(2, 5, 2, 0),
	}
	owning(t, l, 1, 0, []int{1, 5, 7}, nil)
	owning(t, l, 1, 1, []int{1, 5, 7}, []int{1})
	owning(t, l, 2, 1, nil, []int{5, 6, 7})
	owning(t, l, 1, 2, []int{1, 7}, []int{1})
	owning(t, l, 2, 2, []int{5}, []int{6, 7})
	owning(t, l, 0, 2, []int{6}, []int{5})
	for _, person := range []int{-1, 3, minInt, maxInt, api.MaxPerson + 1} {
		owning(t, l, person, 0, nil, nil) // no cask is pledged to the person -1
		owning(t, l, person, 2, nil, nil)
	}
	owning(t, nil, -1, 0, nil, nil)
}

// P6.2: At and Owned tell what Play tells.
func TestAtAny(t *testing.T) {
	r := rand.New(rand.NewSource(2))
	for range 2000 {
		l := anyLedger(r, 4+r.Intn(50))
		day := r.Intn(l[len(l)-1].Day + 5)
		casks, _, e := cask.Play(l, day)
		if e != api.OK {
			t.Fatal(l, day, e)
		}
		own, pledged := map[int][]int{}, map[int][]int{}
		for _, c := range casks {
			if at, e := cask.At(l, c.Number, day); at != c || e != api.OK {
				t.Fatal(l, day, c, at, e)
			}
			own[c.Owner] = append(own[c.Owner], c.Number)
			if c.Creditor != -1 {
				pledged[c.Creditor] = append(pledged[c.Creditor], c.Number)
			}
		}
		for person := -1; person <= 2; person++ {
			owning(t, l, person, day, own[person], pledged[person])
		}
	}
}
