package cask

import "wormtub/api"

// nobody is to whom a cask is pledged that is not pledged.
const nobody = -1

// barrel is a cask. What is told of its drops is known as it was on a day, since which it
// lies as it is now.
type barrel struct {
	api.Cask
	drops drops
	day   int
}

// rest lets a cask lie until a day.
func (b *barrel) rest(day int) {
	if b.Amount > 0 {
		b.drops = b.drops.older(day-b.day, b.Wood, b.Place)
	}
	b.day = day
}

// pour lets an amount of drops come into a cask.
func (b *barrel) pour(amount int, d drops) {
	must(b.Amount+amount <= b.Room, api.ErrFull)
	if b.Amount > 0 {
		d = d.with(b.drops)
	}
	b.Amount, b.drops = b.Amount+amount, d
}

// tap lets an amount out of a cask, and returns what is known of its drops: each kind of
// drops is in what goes, and in what is left, if anything is.
func (b *barrel) tap(amount int) drops {
	must(b.Amount >= amount, api.ErrShort)
	d := b.drops
	b.Amount -= amount
	if b.Amount == 0 {
		b.drops = drops{}
	}
	return d
}

// pledged tells whether a cask is pledged.
func (b *barrel) pledged() bool { return b.Creditor != nobody }

// told returns what is told of a cask.
func (b *barrel) told() api.Cask {
	c := b.Cask
	c.Age, c.Woods, c.Places = b.drops.age, b.drops.woods, b.drops.places
	return c
}
