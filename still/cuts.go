package still

import "wormtub/api"

// kinds is what an amount can be: a bit for each kind.
type kinds int

const (
	foreshots kinds = api.Foreshots
	heart     kinds = api.Heart
	feints    kinds = api.Feints
	spent     kinds = api.Spent
)

// with returns the kinds together with another one, if that can be.
func (k kinds) with(kind kinds, can bool) kinds {
	if can {
		return k | kind
	}
	return k
}

// Cuts returns what each amount can be.
func Cuts(c api.Curve, p api.Pot, amounts []int, fore, cut, end int) ([]int, api.Errno) {
	if e := check(c, p, amounts); e != api.OK {
		return nil, e
	}
	if fore < 0 || fore > api.MaxPot || end < 0 || end > cut || cut > api.MaxStrength {
		return nil, api.ErrRange
	}
	drawn, _, e := Run(c, p, amounts)
	if e != api.OK {
		return nil, e
	}
	var sums []int
	together := 0
	for _, d := range drawn {
		together += d.Amount
		k := foreshots
		if together > fore {
			k = kindsOf(strength(d.Alcohol, d.Amount), cut, end)
		}
		sums = append(sums, int(k))
	}
	return sums, api.OK
}

// kindsOf returns what something with a strength can be that is not foreshots.
func kindsOf(strong span, cut, end int) kinds {
	return kinds(0).
		with(heart, strong.Hi >= cut).
		with(feints, strong.Lo < cut && strong.Hi >= end).
		with(spent, strong.Lo < end)
}

// Heart returns the last amount with which a strength is surely reached.
func Heart(c api.Curve, p api.Pot, amounts []int, from, target int) (int, api.Errno) {
	if e := check(c, p, amounts); e != api.OK {
		return 0, e
	}
	if from < 0 || from >= len(amounts) || target < 1 || target > api.MaxStrength {
		return 0, api.ErrRange
	}
	drawn, _, e := Run(c, p, amounts)
	if e != api.OK {
		return 0, e
	}
	last, e := 0, api.ErrNone
	amount, alcohol := 0, 0
	for i := from; i < len(drawn); i++ {
		amount, alcohol = amount+drawn[i].Amount, alcohol+drawn[i].Alcohol.Lo
		if alcohol*api.MaxStrength >= target*amount {
			last, e = i, api.OK
		}
	}
	return last, e
}
