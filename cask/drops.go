package cask

import (
	"math/bits"

	"wormtub/api"
)

// drops is what is known of drops that are mixed: for how many days each of them has been
// in casks at least, in each wood, and at each place, and of which fillings they are. The
// least numbers are enough: what is mixed grows older together, so the drop with the least
// number of days stays the one.
type drops struct {
	age    int
	woods  [api.MaxWoods]int
	places [api.MaxPlaces]int
	fills  fillings
}

// fresh returns what is known of new drops.
func fresh(fill int) drops {
	var d drops
	d.fills[fill/wordBits] = 1 << (fill % wordBits)
	return d
}

// older returns what is known some days later of drops that lay in a wood and at a place.
func (d drops) older(days, wood, place int) drops {
	d.age += days
	d.woods[wood] += days
	d.places[place] += days
	return d
}

// with returns what is known of drops that are mixed with others.
func (d drops) with(other drops) drops {
	d.age = min(d.age, other.age)
	for wood, days := range other.woods {
		d.woods[wood] = min(d.woods[wood], days)
	}
	for place, days := range other.places {
		d.places[place] = min(d.places[place], days)
	}
	for i, word := range other.fills {
		d.fills[i] |= word
	}
	return d
}

// wordBits is how many fillings a word has bits for.
const wordBits = 64

// fillings has a bit for each event of a ledger: whether drops of this filling are there.
type fillings [api.MaxCaskEvents / wordBits]uint64

// indices returns the indices of the fillings, rising.
func (f fillings) indices() []int {
	var l []int
	for i, word := range f {
		for ; word != 0; word &= word - 1 {
			l = append(l, wordBits*i+bits.TrailingZeros64(word))
		}
	}
	return l
}
