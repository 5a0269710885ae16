package malt

import (
	"cmp"
	"iter"
	"slices"

	"wormtub/api"
)

// choice is some lots, as rising indices, and the sum of their prices.
type choice struct {
	lots  []int
	price int
}

// order says which aims a choice of lots has to meet.
type order struct{ day, need, nitrogen int }

// Grist returns the cheapest choice of lots that are there on a day, weigh surely what
// is needed, and surely have not more nitrogen than that.
func Grist(l []api.Barley, day, need, nitrogen int) (chosen []int, price int, e api.Errno) {
	if !validLots(l) {
		return nil, 0, api.ErrArg
	}
	o := order{day, need, nitrogen}
	if !o.valid() {
		return nil, 0, api.ErrRange
	}
	var best choice
	found := false
	for c := range choices(l, o) {
		if !found || c.compare(best) < 0 {
			best, found = c, true
		}
	}
	if !found {
		return nil, 0, api.ErrNone
	}
	return best.lots, best.price, api.OK
}

// choices ranges over all sets of lots that meet an order.
func choices(l []api.Barley, o order) iter.Seq[choice] {
	return func(yield func(choice) bool) {
		for set := range 1 << len(l) {
			if o.metBy(l, set) && !yield(choiceOf(l, set)) {
				return
			}
		}
	}
}

// members ranges over the indices of the bits of a set, rising.
func members(set int) iter.Seq[int] {
	return func(yield func(int) bool) {
		for i := range api.MaxBarley {
			if set>>i&1 == 1 && !yield(i) {
				return
			}
		}
	}
}

// choiceOf returns the choice of the lots in a set.
func choiceOf(l []api.Barley, set int) choice {
	c := choice{lots: slices.Collect(members(set))}
	for _, i := range c.lots {
		c.price += l[i].Price
	}
	return c
}

// compare returns a number below 0 if c is to be taken rather than other.
func (c choice) compare(other choice) int {
	return cmp.Or(
		cmp.Compare(c.price, other.price),
		cmp.Compare(len(c.lots), len(other.lots)),
		slices.Compare(c.lots, other.lots),
	)
}

// metBy tells whether the lots in a set are ready, enough, and not too rich in nitrogen,
// whatever is true.
func (o order) metBy(l []api.Barley, set int) bool {
	weight, rich := 0, 0
	for i := range members(set) {
		if l[i].Ready > o.day {
			return false
		}
		weight += l[i].Weight.Lo
		rich += l[i].Weight.Hi * l[i].Nitrogen.Hi
	}
	return weight >= o.need && rich <= o.nitrogen*weight
}

// valid tells whether an order is within the limits.
func (o order) valid() bool {
	return o.day >= 0 && o.day <= api.MaxDay &&
		o.need >= 0 && o.need <= api.MaxAmount &&
		o.nitrogen >= 0 && o.nitrogen <= api.Whole
}

// validLots tells whether there are not too many lots, all of them valid.
func validLots(l []api.Barley) bool {
	if len(l) > api.MaxBarley {
		return false
	}
	for _, b := range l {
		if !within(b.Weight, api.MaxAmount/api.MaxBarley) || !within(b.Nitrogen, api.Whole) ||
			b.Ready < 0 || b.Ready > api.MaxDay || b.Price < 0 || b.Price > api.MaxPrice {
			return false
		}
	}
	return true
}
